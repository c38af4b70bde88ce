package web

func readRequest(b []byte) (Request, int, error) {
	head, err := cutHead(b, errTarget)
	if err != nil {
		return Request{}, 0, err
	}
	r, err := readRequestLine(head.start)
	if err != nil {
		return Request{}, 0, err
	}
	if r.Fields, err = readFields(head.fields); err != nil {
		return Request{}, 0, err
	}
	if err = checkHost(r.Fields, r.Minor); err != nil {
		return Request{}, 0, err
	}
	frame, err := framingOf(r.Fields, r.Minor, noBody)
	if err != nil {
		return Request{}, 0, err
	}
	body, size, err := frame.cut(b[head.size:])
	if err != nil {
		return Request{}, 0, err
	}
	r.Body, r.Close = body, closes(r.Fields, r.Minor)
	return r, head.size + size, nil
}

func readResponse(b []byte) (Response, int, error) {
	head, err := cutHead(b, errStart)
	if err != nil {
		return Response{}, 0, err
	}
	r, err := readStatusLine(head.start)
	if err != nil {
		return Response{}, 0, err
	}
	if r.Fields, err = readFields(head.fields); err != nil {
		return Response{}, 0, err
	}
	frame, err := responseFraming(r)
	if err != nil {
		return Response{}, 0, err
	}
	body, size, err := frame.cut(b[head.size:])
	if err != nil {
		return Response{}, 0, err
	}
	r.Body = body
	r.Close = frame.way == allBytes || closes(r.Fields, r.Minor)
	return r, head.size + size, nil
}

// responseFraming: of a status without a body nothing is asked of the fields.
func responseFraming(r Response) (framing, error) {
	if isBodiless(r.Status) {
		return framing{way: noBody}, nil
	}
	return framingOf(r.Fields, r.Minor, allBytes)
}
