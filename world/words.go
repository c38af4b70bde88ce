package world

import "sync"

// player: what plays a line, and tells what comes of it.
type player = func(w *World, l *line) string

// words: who plays the lines of each word. The table is made when a world plays its first line; one that never does so needs none.
type words struct {
	once    sync.Once
	players map[string]player
}

func (t *words) playerOf(word string) player {
	t.once.Do(func() { t.players = allPlayers() })
	return t.players[word]
}

func allPlayers() map[string]player {
	return map[string]player{
		"log":    (*World).makeLog,
		"client": (*World).makeClient,
		"add":    (*World).add,
		"put":    (*World).put,
		"ask":    (*World).ask,
		"head":   (*World).head,
		"fail":   (*World).fail,
		"crash":  (*World).crash,
		"open":   (*World).open,
		"turn":   (*World).turn,
		"answer": (*World).answer,
		"spoil":  (*World).spoil,
		"look":   (*World).look,
		"latest": (*World).latest,
		"merge":  (*World).merge,
		"judge":  (*World).judge,
	}
}
