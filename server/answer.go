package server

import (
	"ledger/api"
	"ledger/web"
)

const (
	maxRequests = 64 // of one stream that are answered
	readMethod  = "GET"
	plainText   = "text/plain; charset=utf-8"
	anyBytes    = "application/octet-stream"
)

// answer: to one request, whether or not it closes.
type answer struct {
	status int
	kind   string
	body   []byte
}

func (s *Server) answerTo(method, target string) answer {
	a, err := s.tell(method, target)
	if err != nil {
		return refused(statusOf(err))
	}
	return a
}

func (s *Server) tell(method, target string) (answer, error) {
	r, path, err := ask(method, target)
	if err != nil {
		return answer{}, err
	}
	body, err := r.tell(s, path)
	if err != nil {
		return answer{}, err
	}
	return answer{status: statusOK, kind: r.kind, body: body}, nil
}

// ask: the route that a request takes, and the path that it asks for there. What is no target is refused ahead of a path that is none, and that ahead of the method.
func ask(method, target string) (route, string, error) {
	path, query, e := web.Path(target)
	if e != api.OK || query != "" {
		return route{}, "", errRequest
	}
	r, err := routeOf(path)
	if err != nil {
		return route{}, "", err
	}
	if method != readMethod {
		return route{}, "", errMethod
	}
	return r, path, nil
}

// serveFirst: the bytes of the answer to the first request of the stream, how many bytes that takes, and whether it goes on behind it.
func (s *Server) serveFirst(stream []byte, last bool) (b []byte, size int, goesOn bool) {
	request, size, e := web.ParseRequest(stream)
	switch e {
	case api.OK:
		closing := last || request.Close
		return s.answerTo(request.Method, request.Target).print(closing), size, !closing
	case api.ErrShort:
		return nil, 0, false
	}
	return refused(web.StatusOf(e)).print(true), 0, false
}

func (a answer) print(closing bool) []byte {
	fields := []web.Field{{Name: "Content-Type", Value: a.kind}}
	if a.status == statusNotAllowed {
		fields = append(fields, web.Field{Name: "Allow", Value: readMethod})
	}
	if closing {
		fields = append(fields, web.Field{Name: "Connection", Value: "close"})
	}
	return response(a.status, a.body, fields...)
}

// response: no answer of this layer is beyond what web prints: its greatest body is a data tile, of 256 records.
func response(status int, body []byte, fields ...web.Field) []byte {
	b, _ := web.FormatResponse(web.Response{Status: status, Minor: 1, Fields: fields, Body: body})
	return b
}
