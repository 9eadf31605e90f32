package tree

import (
	"math"

	"keyhole/api"
	"keyhole/within"
)

// scope is a name that is bound, and what is around it; none binds nothing.
type scope struct {
	name   string
	around *scope
}

// binds tells whether a name is bound.
func (s *scope) binds(name string) bool {
	for ; s != nil; s = s.around {
		if s.name == name {
			return true
		}
	}
	return false
}

// common is the names that both bind, and whether the first one binds no other one.
func common(s, t *scope) (*scope, bool) {
	if s == nil || s == t {
		return s, true
	}
	bound := map[string]struct{}{}
	for ; t != nil; t = t.around {
		bound[t.name] = struct{}{}
	}
	var both *scope
	all := true
	for ; s != nil; s = s.around {
		if _, ok := bound[s.name]; ok {
			both = &scope{s.name, both}
		} else {
			all = false
		}
	}
	return both, all
}

// passage tells how parts were gone through.
type passage struct {
	been bool
	// always is the names that were bound each time.
	always *scope
}

// leads notes that the parts are gone through, and tells whether that may lead to a name that wasn't found: not so, if the names that were bound each time till now are bound this time, too.
func (p *passage) leads(bound *scope) bool {
	if !p.been {
		p.been, p.always = true, bound
		return true
	}
	always, covered := common(p.always, bound)
	p.always = always
	return !covered
}

// stand is parts, and the names that are bound where they stand.
type stand struct {
	parts []api.Expr
	bound *scope
}

// search looks for names that aren't bound. Expressions that may not be can share far more parts than could be gone through one by one, be deeper than calls go, or stand in themselves: so parts are gone through from a row, and once more only where that may lead to other names.
type search struct {
	// row has the parts that are left, those that come next last.
	row      []stand
	passages within.Kept[api.Expr, *passage]
	known    map[string]struct{}
	found    []string
}

// Vars is the names that are used, and aren't bound.
func Vars(e api.Expr) []string {
	s := search{passages: within.Kept[api.Expr, *passage]{}, known: map[string]struct{}{}}
	s.put(stand{parts: []api.Expr{e}})
	for len(s.row) > 0 {
		s.step()
	}
	return s.found
}

// put lets parts be gone through next.
func (s *search) put(next stand) {
	if len(next.parts) > 0 {
		s.row = append(s.row, next)
	}
}

// step goes on with the parts that come next.
func (s *search) step() {
	next := s.row[len(s.row)-1]
	s.row = s.row[:len(s.row)-1]
	if !s.passage(next.parts).leads(next.bound) {
		return
	}
	e := next.parts[0]
	s.put(stand{next.parts[1:], next.bound})
	if e.Op == api.Var {
		s.use(e.Text, next.bound)
	}
	s.enter(e, next.bound)
}

func (s *search) passage(parts []api.Expr) *passage {
	return s.passages.Of(parts, func([]api.Expr) *passage { return &passage{} })
}

// use notes a name that is used, unless it is bound.
func (s *search) use(name string, bound *scope) {
	if _, ok := s.known[name]; ok || bound.binds(name) {
		return
	}
	s.known[name] = struct{}{}
	s.found = append(s.found, name)
}

// enter lets the parts of an expression be gone through next.
func (s *search) enter(e api.Expr, bound *scope) {
	i := binding(e.Op)
	if i >= len(e.Subs) {
		s.put(stand{e.Subs, bound})
		return
	}
	s.put(stand{e.Subs[i+1:], bound})
	s.put(stand{e.Subs[i : i+1], &scope{e.Text, bound}})
	s.put(stand{e.Subs[:i], bound})
}

// binding is the place of the part in which an Op binds its name; of one that binds none, a place behind all parts.
func binding(op int) int {
	switch op {
	case api.As:
		return 1
	case api.Reduce, api.Foreach:
		return 2
	}
	return math.MaxInt
}
