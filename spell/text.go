package spell

import "strings"

// text is a word, or a row of texts, one behind the other. It is put together only when it is written: else what stands within many brackets would be copied at each of them.
type text struct {
	word string
	row  []text
}

func word(s string) text { return text{word: s} }

func join(texts ...text) text { return text{row: texts} }

// between puts texts together, with a word between each two.
func between(w string, texts []text) text {
	var row []text
	for i, t := range texts {
		if i > 0 {
			row = append(row, word(w))
		}
		row = append(row, t)
	}
	return join(row...)
}

// bracketed is texts in brackets with a ; between, or nothing where there are none.
func bracketed(texts []text) text {
	if len(texts) == 0 {
		return text{}
	}
	return join(word("("), between(";", texts), word(")"))
}

func (t text) written() string {
	var out strings.Builder
	t.write(&out)
	return out.String()
}

func (t text) write(out *strings.Builder) {
	out.WriteString(t.word)
	for _, x := range t.row {
		x.write(out)
	}
}
