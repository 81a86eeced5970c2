package rig

import (
	"slices"
	"strings"

	"penstock/api"
)

// Word is a line of so many bytes, without its end.
func Word(n int) string {
	return strings.Repeat("abcdefg", n/7+1)[:n]
}

// Every is all 256 bytes.
func Every() string {
	all := make([]byte, 256)
	for i := range all {
		all[i] = byte(i)
	}
	return string(all)
}

// Inputs are inputs of a machine of lines.
func Inputs() []string {
	return []string{
		"",
		"\n",
		"\n\n\n",
		"a",
		"a\n",
		"a\nb\nc",
		"a\nb\nc\n",
		"ab\n\ncd\n\n",
		"\x00\xff\r\n\x80 \t\n\x0b",
		Word(64) + "\n",
		Word(64),
		"a\n" + Word(64) + "\n" + Word(63) + "\n" + Word(64),
		Word(65),
		Word(65) + "\n",
		"a\nbb\n" + Word(65) + "\nc\n",
		"a\nbb\n" + Word(65),
		"a\nbb\n" + Word(200) + "\nc",
		Word(64) + "\n\n" + Word(65) + "\n",
		strings.Repeat("\n", 70),
		strings.Repeat("xy\n", 40) + "z",
	}
}

// Letters is lines of which no two are alike: of each letter one of two bytes, and one
// of one.
func Letters() string {
	text := ""
	for c := 'a'; c <= 'z'; c++ {
		text += string([]rune{c, c, '\n', c, '\n'})
	}
	return text
}

// SmallInputs are all inputs of so many bytes at most, each of them a digit, a blank, or
// an end of a line.
func SmallInputs(most int) []string {
	inputs := []string{""}
	for at := 0; len(inputs[at]) < most; at++ {
		for _, c := range []string{"1", " ", "\n"} {
			inputs = append(inputs, inputs[at]+c)
		}
	}
	return inputs
}

// HasTooLong tells whether one of an input's lines is too long.
func HasTooLong(input string) bool {
	return slices.ContainsFunc(strings.Split(input, "\n"), func(text string) bool { return len(text) > api.MaxLine })
}

// LastEnded is an input whose last line has its end: what all its lines come to, as they
// are.
func LastEnded(input string) string {
	if input == "" || strings.HasSuffix(input, "\n") {
		return input
	}
	return input + "\n"
}

// EachLine reckons what is to be seen of a machine that holds nothing but the line that
// is begun, and of whose lines each comes to a text. It asks for that of each line that
// is told once, in their order.
func EachLine(in Input, comesTo func(text string) string) Seen {
	out, input := "", in.Text
	for {
		text, rest, whole := strings.Cut(input, "\n")
		switch {
		case len(text) > api.MaxLine:
			return Seen{Out: out, Need: api.Ended, Err: api.ErrLong}
		case !whole && !in.Ended:
			return Seen{Out: out, Held: len(text)}
		case !whole && text == "":
			return Seen{Out: out, Need: api.Ended}
		}
		out += comesTo(text)
		input = rest
	}
}
