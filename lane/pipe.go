package lane

// pipe: a lane.
type pipe struct {
	waiting chan []byte // what has come; it is closed when nothing more can come
	closed  bool        // nothing more can be sent
	late    int         // how many messages are on their way here
}

// parcel: a message that is on its way.
type parcel struct {
	lane    int
	message []byte
}

// come: the message waits, or is lost where there is no room.
func (p *pipe) come(message []byte) {
	select {
	case p.waiting <- message:
	default:
	}
}

// arrive: a message that was on its way comes.
func (p *pipe) arrive(message []byte) {
	p.come(message)
	p.late--
	p.endChannel()
}

func (p *pipe) shut() {
	p.closed = true
	p.endChannel()
}

// ended: nothing more can come.
func (p *pipe) ended() bool { return p.closed && p.late == 0 }

// endChannel stands behind the two changes by which a lane can end, and a lane ends once: none is shut twice, and nothing is on its way to one that has ended.
func (p *pipe) endChannel() {
	if p.ended() {
		close(p.waiting)
	}
}

// post: the message comes to the lane so many ticks from now on, at once if there are none.
func (n *Net) post(lane int, message []byte, ticks int) {
	p := &n.pipes[lane]
	if ticks == 0 {
		p.come(message)
		return
	}
	due := n.now + ticks
	n.underway[due] = append(n.underway[due], parcel{lane: lane, message: message})
	p.late++
}

// tick: the time goes on by one, and what is due then comes.
func (n *Net) tick() {
	n.now++
	for _, p := range n.underway[n.now] {
		n.pipes[p.lane].arrive(p.message)
	}
	delete(n.underway, n.now)
}
