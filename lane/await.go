package lane

import "ledger/api"

// await: the first message of the first of these lanes that has one, as the time goes on by so many ticks at most. Of what the select listens to just one is ready each time: that is settled ahead of it, so that it never has a choice.
func (n *Net) await(lanes []int, ticks int) (int, []byte, api.Errno) {
	tick, end := make(chan int, 1), make(chan int, 1)
	for gone := 0; ; gone++ {
		lane, from := n.ready(lanes)
		switch {
		case from != nil: // neither the tick nor the end, then
		case gone < ticks:
			tick <- gone
		default:
			end <- gone
		}
		select {
		case message, ok := <-from:
			if !ok {
				return 0, nil, api.ErrClosed
			}
			return lane, message, api.OK
		case <-tick:
			n.tick()
		case <-end:
			return 0, nil, api.ErrTimeout
		}
	}
}

// ready: the first of the lanes on which a message waits, and its channel; if all of them are empty and have ended, a channel that is closed. Else nil, from which nothing is ever received: a single lane that has ended isn't listened to while another may still have something.
func (n *Net) ready(lanes []int) (int, <-chan []byte) {
	ended := 0
	for _, lane := range lanes {
		p := &n.pipes[lane]
		if len(p.waiting) > 0 {
			return lane, p.waiting
		}
		if p.ended() {
			ended++
		}
	}
	if ended == len(lanes) {
		return lanes[0], n.pipes[lanes[0]].waiting
	}
	return 0, nil
}
