package show

import (
	"keyhole/api"
	"keyhole/envelope"
	"keyhole/num"
	"keyhole/sight"
	"keyhole/utf"
)

// unseen stands where nothing is seen.
const unseen = `{"#":null}`

// shell is what is shown of a node, but for its items: what stands ahead of them and behind them, and their keys.
type shell struct {
	ahead, behind string
	keys          []string
	items         []api.Node
	// label is the one under which the items are.
	label int
}

// shellOf is the shell of a node that is under a label.
func shellOf(eye sight.Eye, n *api.Node, under int) shell {
	label, seen := eye.Look(n, under)
	if !seen {
		return shell{ahead: unseen}
	}
	s := body(n)
	s.label = label
	if label != under {
		// A level's name has nothing that would have to be quoted otherwise.
		s.ahead = `{"#":"` + eye.Lattice.Text(label) + `","=":` + s.ahead
		s.behind += "}"
	}
	return s
}

// body is the shell of a node that bears the label under which it is.
func body(n *api.Node) shell {
	switch n.Kind {
	case api.Array:
		return shell{ahead: "[", items: n.Items, behind: "]"}
	case api.Object:
		return shell{ahead: "{", keys: n.Keys, items: n.Items, behind: "}"}
	case api.Bad:
		return shell{ahead: `{"#!":` + quoted(n.Str), behind: "}"}
	}
	return shell{ahead: leaf(n)}
}

// leaf is the text of what never has items.
func leaf(n *api.Node) string {
	switch n.Kind {
	case api.Null:
		return "null"
	case api.False:
		return "false"
	case api.True:
		return "true"
	case api.Number:
		return num.Text(n.Num)
	}
	return quoted(n.Str)
}

// lead is what stands ahead of what a key has.
func lead(key string) string { return quoted(envelope.Key(key)) + ":" }

// quoted is a text, quoted; there is none of what is no text.
func quoted(s string) string {
	q, _ := utf.Quote(s)
	return q
}
