package audit

import (
	"ledger/api"
	"ledger/client"
	"ledger/modver"
	"ledger/proof"
	"ledger/tlog"
)

// within: does the fact speak of a record that was read?
func (b *book) within(f client.Fact) bool {
	return f.Kind == client.Accepted && f.Head.Size >= 1 && f.Head.Size <= b.head.Size && f.Id >= 0 && f.Id < f.Head.Size
}

// isProven: does the fact stand by itself, whatever was read?
func isProven(k int, f client.Fact) bool {
	path, version, _, _, e := modver.ParseRecord(f.Record)
	if e != api.OK || path != f.Path || version != f.Version {
		return false
	}
	leaf := tlog.LeafHash(k, []byte(f.Record))
	return proof.CheckRecord(k, f.Proof, f.Head.Size, f.Head.Root, f.Id, leaf) == api.OK
}
