package budget

import (
	"errors"
	"strconv"

	"alidade/api"
)

// usedUp is the error of a budget: which part it was, and how much there was of it.
type usedUp struct {
	part string
	most int
}

// Error tells the error as a text.
func (u usedUp) Error() string { return "no " + u.part + " left of " + strconv.Itoa(u.most) }

// Unwrap is the number that each error of a budget wraps.
func (u usedUp) Unwrap() error { return api.ErrBudget }

// worded is an error, wrapped with a word.
type worded struct {
	err  error
	word string
}

// Error tells the error as a text.
func (w *worded) Error() string { return Text(w) }

// Unwrap is the error that was wrapped.
func (w *worded) Unwrap() error { return w.err }

// peeled are the words that an error was wrapped with, and what is within them.
func peeled(err error) (words []string, within error) {
	for {
		w, is := found[*worded](err)
		if !is || w == nil {
			return words, err
		}
		words, err = append(words, w.word), w.err
	}
}

// said is what an error says without its words, behind which only what is within them stands.
func said(err, within error) (text string) {
	if part, most, is := Part(err); is {
		return usedUp{part, most}.Error()
	}
	if n, is := found[api.Errno](err); is {
		return n.Error()
	}
	quietly(func() { text = within.Error() })
	return text
}

// found is what of a kind an error is, or wraps. An error from elsewhere may say that it is so, and hand nothing over: then that is the kind's zero value.
func found[T error](err error) (it T, is bool) {
	quietly(func() { is = errors.As(err, &it) })
	return it, is
}

// quietly does what asks errors from elsewhere, whose methods may panic.
func quietly(do func()) {
	defer func() { recover() }()
	do()
}
