package jtext

import (
	"strings"

	"keyhole/api"
	"keyhole/num"
	"keyhole/utf"
)

// writer puts texts of values together, of at most so many bytes. Its methods tell false as soon as there would be more: values that share items can have texts that are far longer than they are.
type writer struct {
	out  strings.Builder
	most int
}

func (w *writer) put(s string) bool {
	if len(s) > w.most-w.out.Len() {
		return false
	}
	w.out.WriteString(s)
	return true
}

// value writes a value that may be.
func (w *writer) value(v api.Value) bool {
	switch v.Kind {
	case api.Null:
		return w.put("null")
	case api.False:
		return w.put("false")
	case api.True:
		return w.put("true")
	case api.Number:
		return w.put(num.Text(v.Num))
	case api.String:
		return w.quoted(v.Str)
	case api.Array:
		return w.put("[") && w.items(v) && w.put("]")
	}
	return w.put("{") && w.items(v) && w.put("}")
}

func (w *writer) quoted(s string) bool {
	q, e := utf.Quote(s)
	return e == api.OK && w.put(q)
}

// items writes what is in an array, or in an object, there with its keys.
func (w *writer) items(v api.Value) bool {
	for i := range v.Items {
		if i > 0 && !w.put(",") {
			return false
		}
		if v.Kind == api.Object && !(w.quoted(v.Keys[i]) && w.put(":")) {
			return false
		}
		if !w.value(v.Items[i]) {
			return false
		}
	}
	return true
}
