package lane_test

import (
	"slices"

	"ledger/api"
	"ledger/lane"
)

// letter: a message that was sent, as the book keeps it.
type letter struct {
	lane int
	text string
	at   int
	fate lane.Fate
}

// book: a net in the chapter's words: every message that was ever sent stands in it, and what comes in a tick, or is on its way, is read off all of them each time.
type book struct {
	fates   []lane.Fate
	letters []letter
	now     int
	wait    [][]string
	closed  []bool
}

func newBook(lanes int, fates []lane.Fate) *book {
	return &book{fates: fates, wait: make([][]string, lanes), closed: make([]bool, lanes)}
}

func (b *book) isLane(on int) bool { return 0 <= on && on < len(b.wait) }

// fateOf: the fate of the message with this number.
func (b *book) fateOf(number int) lane.Fate {
	if number < len(b.fates) {
		return b.fates[number]
	}
	return lane.Fate{}
}

// atOnce: what comes of a letter within its call of Send.
func (l letter) atOnce() []string {
	switch {
	case l.fate.Kind == lane.Deliver:
		return []string{l.text}
	case l.fate.Kind == lane.Double && l.fate.N == 0:
		return []string{l.text, l.text}
	case l.fate.Kind == lane.Double:
		return []string{l.text}
	case l.fate.Kind == lane.Delay && l.fate.N == 0:
		return []string{l.text}
	case l.fate.Kind == lane.Cut && l.fate.N < len(l.text):
		return []string{l.text[:l.fate.N]}
	case l.fate.Kind == lane.Spoil && l.fate.N < len(l.text):
		c := l.text[l.fate.N]
		if c%2 == 0 {
			c++
		} else {
			c--
		}
		return []string{l.text[:l.fate.N] + string([]byte{c}) + l.text[l.fate.N+1:]}
	case l.fate.Kind == lane.Cut, l.fate.Kind == lane.Spoil:
		return []string{l.text}
	}
	return nil
}

// later: when a letter comes once more, or at last; -1, if it does not.
func (l letter) later() int {
	if (l.fate.Kind == lane.Double || l.fate.Kind == lane.Delay) && l.fate.N > 0 {
		return l.at + l.fate.N
	}
	return -1
}

func (b *book) comes(on int, text string) {
	if len(b.wait[on]) < 64 {
		b.wait[on] = append(b.wait[on], text)
	}
}

func (b *book) send(on int, text string) api.Errno {
	switch {
	case !b.isLane(on):
		return api.ErrLane
	case b.closed[on]:
		return api.ErrClosed
	case len(text) > 1048576:
		return api.ErrLong
	}
	l := letter{lane: on, text: text, at: b.now, fate: b.fateOf(len(b.letters))}
	b.letters = append(b.letters, l)
	for _, s := range l.atOnce() {
		b.comes(on, s)
	}
	return api.OK
}

func (b *book) tick() {
	b.now++
	for _, l := range b.letters {
		if l.later() == b.now {
			b.comes(l.lane, l.text)
		}
	}
}

func (b *book) onItsWay(on int) bool {
	return slices.ContainsFunc(b.letters, func(l letter) bool { return l.lane == on && l.later() > b.now })
}

func (b *book) over(on int) bool {
	return b.closed[on] && len(b.wait[on]) == 0 && !b.onItsWay(on)
}

func (b *book) take(lanes []int, ticks int) (int, string, api.Errno) {
	for gone := 0; ; gone++ {
		over := true
		for _, on := range lanes {
			if len(b.wait[on]) > 0 {
				first := b.wait[on][0]
				b.wait[on] = b.wait[on][1:]
				return on, first, api.OK
			}
			over = over && b.over(on)
		}
		if over {
			return 0, "", api.ErrClosed
		}
		if gone == ticks {
			return 0, "", api.ErrTimeout
		}
		b.tick()
	}
}

func (b *book) waitFor(on, ticks int) (string, api.Errno) {
	if !b.isLane(on) {
		return "", api.ErrLane
	}
	if ticks < 0 || ticks > 65536 {
		return "", api.ErrArg
	}
	_, text, e := b.take([]int{on}, ticks)
	return text, e
}

func (b *book) any(lanes []int, ticks int) (int, string, api.Errno) {
	if len(lanes) > 64 {
		return 0, "", api.ErrLong
	}
	for _, on := range lanes {
		if !b.isLane(on) {
			return 0, "", api.ErrLane
		}
	}
	for i, on := range lanes {
		if slices.Contains(lanes[:i], on) {
			return 0, "", api.ErrArg
		}
	}
	if len(lanes) == 0 || ticks < 0 || ticks > 65536 {
		return 0, "", api.ErrArg
	}
	return b.take(lanes, ticks)
}

func (b *book) pass(ticks int) api.Errno {
	if ticks < 0 || ticks > 65536 {
		return api.ErrArg
	}
	for range ticks {
		b.tick()
	}
	return api.OK
}

func (b *book) shut(on int) api.Errno {
	switch {
	case !b.isLane(on):
		return api.ErrLane
	case b.closed[on]:
		return api.ErrClosed
	}
	b.closed[on] = true
	return api.OK
}

func (b *book) waiting(on int) (int, api.Errno) {
	if !b.isLane(on) {
		return 0, api.ErrLane
	}
	return len(b.wait[on]), api.OK
}
