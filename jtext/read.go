package jtext

import (
	"maps"
	"slices"

	"keyhole/api"
	"keyhole/jval"
	"keyhole/num"
	"keyhole/utf"
)

// source is bytes that are read from the front. Where it can't go on, it panics with a fault.
type source struct {
	bytes []byte
	at    int
}

// fault is what is wrong, and where.
type fault struct {
	at int
	e  api.Errno
}

func stop(at int, e api.Errno) { panic(fault{at, e}) }

// next is the byte that comes next; at the end it is 0, which goes on nothing, either.
func (s *source) next() byte {
	if s.at == len(s.bytes) {
		return 0
	}
	return s.bytes[s.at]
}

// take goes past a byte, which must come next.
func (s *source) take(b byte) {
	if s.next() != b {
		stop(s.at, api.ErrForm)
	}
	s.at++
}

func (s *source) word(w string) {
	for i := range len(w) {
		s.take(w[i])
	}
}

func (s *source) blanks() {
	for isBlank(s.next()) {
		s.at++
	}
}

func isBlank(b byte) bool { return b == ' ' || b == '\t' || b == '\n' || b == '\r' }

// quoted is the text of the string that begins here.
func (s *source) quoted() string {
	from := s.at
	s.take('"')
	for s.at < len(s.bytes) && s.bytes[s.at] != '"' {
		if s.bytes[s.at] == '\\' {
			s.at++
		}
		s.at++
	}
	// What has no end is no string for Unquote, either.
	s.at = min(s.at+1, len(s.bytes))
	text, e := utf.Unquote(string(s.bytes[from:s.at]))
	if e != api.OK {
		stop(from, e)
	}
	return text
}

// number is the number that begins here.
func (s *source) number() api.Num {
	from := s.at
	for isNumeric(s.next()) {
		s.at++
	}
	n, e := num.Parse(string(s.bytes[from:s.at]))
	if e != api.OK {
		stop(from, e)
	}
	return n
}

func isNumeric(b byte) bool {
	switch b {
	case '+', '-', '.', 'e', 'E':
		return true
	}
	return b >= '0' && b <= '9'
}

// reader reads values.
type reader struct{ source }

// read is the value of all bytes, unless something is wrong with them.
func (r *reader) read() (v api.Value, wrong fault) {
	defer func() {
		switch x := recover().(type) {
		case nil:
		case fault:
			wrong = x
		default:
			panic(x)
		}
	}()
	v = r.value(0)
	r.blanks()
	if r.at < len(r.bytes) {
		stop(r.at, api.ErrForm)
	}
	return v, fault{}
}

// value is the value that comes next, so deep.
func (r *reader) value(deep int) api.Value {
	r.blanks()
	kind := kindOf(r.next())
	if kind == api.Hole {
		stop(r.at, api.ErrForm)
	}
	if deep > api.MaxDepth {
		stop(r.at, api.ErrDepth)
	}
	switch kind {
	case api.Null:
		r.word("null")
	case api.False:
		r.word("false")
	case api.True:
		r.word("true")
	case api.Number:
		return api.Value{Kind: kind, Num: r.number()}
	case api.String:
		return jval.Text(r.quoted())
	case api.Array:
		return r.array(deep)
	case api.Object:
		return r.object(deep)
	}
	return api.Value{Kind: kind}
}

// kindOf is the kind of the values that begin with a byte; Hole, if none does.
func kindOf(b byte) int {
	switch b {
	case 'n':
		return api.Null
	case 'f':
		return api.False
	case 't':
		return api.True
	case '"':
		return api.String
	case '[':
		return api.Array
	case '{':
		return api.Object
	}
	if b == '-' || b >= '0' && b <= '9' {
		return api.Number
	}
	return api.Hole
}

func (r *reader) array(deep int) api.Value {
	r.take('[')
	var items []api.Value
	for goesOn := r.opened(']'); goesOn; goesOn = r.goesOn(']') {
		items = append(items, r.value(deep+1))
	}
	return jval.List(items...)
}

func (r *reader) object(deep int) api.Value {
	r.take('{')
	held := map[string]api.Value{}
	for goesOn := r.opened('}'); goesOn; goesOn = r.goesOn('}') {
		key := r.key(held)
		r.blanks()
		r.take(':')
		held[key] = r.value(deep + 1)
	}
	return ordered(held)
}

// opened tells whether something is in what was begun; if not, it goes past the end.
func (r *reader) opened(end byte) bool {
	r.blanks()
	if r.next() != end {
		return true
	}
	r.at++
	return false
}

// goesOn tells whether something more comes, behind a comma; if not, it goes past the end.
func (r *reader) goesOn(end byte) bool {
	r.blanks()
	if r.next() == ',' {
		r.at++
		return true
	}
	r.take(end)
	return false
}

// key is the key that comes next, which the object hasn't yet.
func (r *reader) key(held map[string]api.Value) string {
	r.blanks()
	from := r.at
	k := r.quoted()
	if _, twice := held[k]; twice {
		stop(from, api.ErrTwice)
	}
	return k
}

// ordered is an object, whose keys rise in whatever order they came.
func ordered(held map[string]api.Value) api.Value {
	o := api.Value{Kind: api.Object, Keys: slices.Sorted(maps.Keys(held))}
	for _, k := range o.Keys {
		o.Items = append(o.Items, held[k])
	}
	return o
}
