package witness

import (
	"ledger/api"
	"ledger/note"
	"ledger/text"
)

// reply: the status and the words by which a refusal is told.
type reply struct {
	why    api.Errno
	status int
	words  string
}

// replies: what isn't here is an error of the disk.
var replies = [...]reply{
	{api.ErrAsk, 400, "bad request"},
	{api.ErrLong, 400, "bad request"},
	{api.ErrNote, 400, "bad request"},
	{api.ErrHead, 400, "bad request"},
	{api.ErrArg, 400, "bad request"},
	{api.ErrSignature, 403, "forbidden"},
	{api.ErrUnsigned, 403, "forbidden"},
	{api.ErrOrigin, 404, "not found"},
	{api.ErrProofLength, 422, "unprocessable"},
	{api.ErrProof, 422, "unprocessable"},
}

func refusal(why api.Errno) (int, []byte) {
	for _, r := range replies {
		if r.why == why {
			return r.status, []byte(r.words + lineEnd)
		}
	}
	return 500, []byte("internal error" + lineEnd)
}

// lastSize: the line that tells with which size this head's log was cosigned last.
func (w *Witness) lastSize(message []byte) []byte {
	body, _, _ := note.Split(message)
	head, _ := note.ParseHead(body)
	return []byte(text.FormatNumber(w.logs[head.Origin].last.Size) + lineEnd)
}
