package world

import (
	"iter"

	"ledger/api"
	"ledger/lane"
)

const (
	maxAtOnce = 32 // requests that are gone about at one time
	patience  = 9  // ticks of a try
)

// goAbout: all that the session's task wants is asked for, until it ends; how many requests were sent.
func (a *clientActor) goAbout(tries int, fates []lane.Fate) int64 {
	asked := int64(0)
	for wants := a.session.Wants(); len(wants) > 0; wants = a.session.Wants() {
		x := newExchanges(a, wants, fates)
		for n := 0; n < tries && x.missing() > 0; n++ {
			x.try()
		}
		asked += int64(x.asked)
		fates = fates[min(x.sent, len(fates)):]
		a.session.Give(x.answers)
		if x.missing() > 0 {
			a.session.Quit()
		}
	}
	return asked
}

// exchanges: requests that are gone about at one time, with a net of their own: lane 2i is for request i, lane 2i+1 for its answer.
type exchanges struct {
	client   *clientActor
	net      *lane.Net
	requests [][]byte
	answers  [][]byte // one for each that is wanted, also for those that are not gone about yet
	asked    int      // requests that were sent
	sent     int      // all messages: so many fates are taken
}

func newExchanges(a *clientActor, wants [][]byte, fates []lane.Fate) *exchanges {
	requests := wants[:min(len(wants), maxAtOnce)]
	net, _ := lane.New(2*len(requests), fates) // so many lanes there may be, and a script's fates are a net's
	return &exchanges{client: a, net: net, requests: requests, answers: make([][]byte, len(wants))}
}

// missing: how many of the requests have no answer yet.
func (x *exchanges) missing() int {
	count := 0
	for i := range x.requests {
		if len(x.answers[i]) == 0 {
			count++
		}
	}
	return count
}

// try: what has no answer is sent, and its time goes by. A late request may be answered when all answers have come, too: it takes a fate, or a forged answer, all the same.
func (x *exchanges) try() {
	for i, request := range x.requests {
		if len(x.answers[i]) == 0 && x.send(2*i, request) {
			x.asked++
		}
	}
	for range patience {
		x.serve()
		x.collect()
		x.net.Pass(1)
	}
}

func (x *exchanges) send(on int, message []byte) bool {
	if x.net.Send(on, message) != api.OK {
		return false
	}
	x.sent++
	return true
}

// serve: each request that is there is answered at once.
func (x *exchanges) serve() {
	for i := range x.requests {
		for request := range x.arrived(2 * i) {
			if answer := x.client.answerTo(request); len(answer) > 0 {
				x.send(2*i+1, answer)
			}
		}
	}
}

// collect: of the answers that are there the first that has a byte counts.
func (x *exchanges) collect() {
	for i := range x.requests {
		for answer := range x.arrived(2*i + 1) {
			if len(x.answers[i]) == 0 {
				x.answers[i] = answer
			}
		}
	}
}

// arrived: the messages that are there on a lane, taken one by one; the time stands still.
func (x *exchanges) arrived(on int) iter.Seq[[]byte] {
	return func(yield func(message []byte) bool) {
		for {
			message, e := x.net.Wait(on, 0)
			if e != api.OK || !yield(message) {
				return
			}
		}
	}
}

// answerTo: the forged answer that has waited longest, or the log's; none of a log that is down.
func (a *clientActor) answerTo(request []byte) []byte {
	if len(a.forged) > 0 {
		oldest := a.forged[0]
		a.forged = a.forged[1:]
		return oldest
	}
	if a.asks.isDown() {
		return nil
	}
	return a.asks.server.Serve(request)
}
