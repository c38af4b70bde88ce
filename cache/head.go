package cache

import "ledger/api"

// readHead: the bytes of the head's file; none, if there is no such file. ErrDead.
func (c *Cache) readHead() ([]byte, api.Errno) {
	head, e := c.disk.Read(c.folder + headName)
	if e == api.ErrAbsent {
		return nil, api.OK
	}
	return head, e
}

// layHead: the head is whole under another name ahead of taking the old one's place, so that no crash finds a part of it.
func (c *Cache) layHead(head []byte) api.Errno {
	fresh := c.folder + newHead
	if e := c.disk.Create(fresh); e != api.OK {
		return e
	}
	if e := c.disk.Write(fresh, 0, head); e != api.OK {
		return e
	}
	if e := c.disk.Sync(fresh); e != api.OK {
		return e
	}
	if e := c.disk.Rename(fresh, c.folder+headName); e != api.OK {
		return e
	}
	return c.disk.SyncNames()
}
