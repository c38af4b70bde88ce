package web

import "ledger/text"

// reason: a status and its words.
type reason struct {
	status int
	words  string
}

// reasons: of the statuses that have words of their own.
var reasons = [...]reason{
	{100, "Continue"},
	{200, "OK"},
	{204, "No Content"},
	{301, "Moved Permanently"},
	{302, "Found"},
	{304, "Not Modified"},
	{400, "Bad Request"},
	{403, "Forbidden"},
	{404, "Not Found"},
	{405, "Method Not Allowed"},
	{408, "Request Timeout"},
	{409, "Conflict"},
	{410, "Gone"},
	{411, "Length Required"},
	{413, "Content Too Large"},
	{414, "URI Too Long"},
	{429, "Too Many Requests"},
	{431, "Request Header Fields Too Large"},
	{500, "Internal Server Error"},
	{501, "Not Implemented"},
	{502, "Bad Gateway"},
	{503, "Service Unavailable"},
	{504, "Gateway Timeout"},
	{505, "HTTP Version Not Supported"},
}

// Reason: the words of a status; "Status" and the number for one that the chapter's table hasn't.
func Reason(status int) string {
	for _, row := range reasons {
		if row.status == status {
			return row.words
		}
	}
	return "Status " + statusText(status)
}

func statusText(status int) string { return text.FormatNumber(int64(status)) }
