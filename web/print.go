package web

import "ledger/text"

const fieldMark = ": "

// printedFields: those that are printed as they were given, their values trimmed. What tells the body's length is left out: the body itself tells it.
func printedFields(fields []Field) []Field {
	var printed []Field
	for _, field := range fields {
		switch kindOf(field) {
		case codingField, lengthField:
		default:
			printed = append(printed, Field{Name: field.Name, Value: trim(field.Value)})
		}
	}
	return printed
}

func lengthOf(body []byte) Field {
	return Field{Name: lengthName, Value: text.FormatNumber(int64(len(body)))}
}

// sizeOf: the bytes of the field lines and of the empty line.
func sizeOf(fields []Field) int {
	size := len(lineEnd)
	for _, field := range fields {
		size += len(field.Name) + len(fieldMark) + len(field.Value) + len(lineEnd)
	}
	return size
}

// checkRequest: the first reason for which the request can't be printed with these fields.
func checkRequest(r Request, fields []Field) error {
	switch {
	case len(r.Method)+len(" ")+len(r.Target)+len(" ")+len(versionText(r.Minor)) > MaxStart:
		return errTarget
	case sizeOf(fields) > MaxHead:
		return errTooLong
	case !isToken(r.Method) || !isTarget(r.Target):
		return errStart
	case !isKnownMethod(r.Method):
		return errMethod
	case !isMinor(r.Minor):
		return errProtocol
	}
	if err := checkFields(fields); err != nil {
		return err
	}
	if err := checkHost(fields, r.Minor); err != nil {
		return err
	}
	if len(r.Body) > MaxBody {
		return errLength
	}
	return nil
}

// checkResponse: likewise.
func checkResponse(r Response, fields []Field) error {
	switch {
	case sizeOf(fields) > MaxHead:
		return errTooLong
	case !isMinor(r.Minor):
		return errProtocol
	case !isStatus(r.Status):
		return errStatus
	}
	if err := checkFields(fields); err != nil {
		return err
	}
	if len(r.Body) > MaxBody || len(r.Body) > 0 && isBodiless(r.Status) {
		return errLength
	}
	return nil
}

// checkFields: of those that are printed.
func checkFields(fields []Field) error {
	if len(fields) > MaxFields {
		return errTooLong
	}
	for _, field := range fields {
		if !mayBeField(field) {
			return errField
		}
	}
	return nil
}

func printMessage(start string, fields []Field, body []byte) []byte {
	b := make([]byte, 0, len(start)+len(lineEnd)+sizeOf(fields)+len(body))
	b = append(b, start+lineEnd...)
	for _, field := range fields {
		b = append(b, field.Name+fieldMark+field.Value+lineEnd...)
	}
	b = append(b, lineEnd...)
	return append(b, body...)
}
