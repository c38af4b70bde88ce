package server

import (
	"strings"

	"ledger/api"
	"ledger/modver"
	"ledger/tile"
)

const (
	latestPath  = "/latest"
	lookupStart = "/lookup/"
	tileStart   = "/tile/"
	keyMark     = "@"
)

// route: what is told under a path.
type route struct {
	path string
	open bool // does the path go on behind this one?
	kind string
	tell func(s *Server, path string) ([]byte, error)
}

func routes() [3]route {
	return [3]route{
		{path: latestPath, kind: plainText, tell: (*Server).tellHead},
		{path: lookupStart, open: true, kind: plainText, tell: (*Server).tellRecord},
		{path: tileStart, open: true, kind: anyBytes, tell: (*Server).tellTile},
	}
}

func (r route) leadsTo(path string) bool {
	return path == r.path || r.open && strings.HasPrefix(path, r.path)
}

func routeOf(path string) (route, error) {
	for _, r := range routes() {
		if r.leadsTo(path) {
			return r, nil
		}
	}
	return route{}, errAbsent
}

func (s *Server) tellHead(_ string) ([]byte, error) { return s.Head(), nil }

func (s *Server) tellRecord(path string) ([]byte, error) {
	key, err := keyOf(strings.TrimPrefix(path, lookupStart))
	if err != nil {
		return nil, err
	}
	body, e := s.Lookup(key)
	if e != api.OK { // ErrAbsent: the key is one
		return nil, errAbsent
	}
	return body, nil
}

// keyOf: of an escaped path and an escaped version with the mark between.
func keyOf(escaped string) (string, error) {
	path, version, ok := strings.Cut(escaped, keyMark)
	if !ok || strings.Contains(version, keyMark) {
		return "", errRequest
	}
	path, e := modver.UnescapePath(path)
	if e != api.OK {
		return "", errRequest
	}
	version, e = modver.UnescapeVersion(version)
	if e != api.OK {
		return "", errRequest
	}
	key, e := modver.Key(path, version)
	if e != api.OK {
		return "", errRequest
	}
	return key, nil
}

func (s *Server) tellTile(path string) ([]byte, error) {
	t, e := tile.ParsePath(strings.TrimPrefix(path, "/"))
	if e != api.OK {
		return nil, errRequest
	}
	data, e := s.log.Tile(t)
	switch e {
	case api.OK:
		return data, nil
	case api.ErrOutside:
		return nil, errAbsent
	}
	return nil, errLog
}
