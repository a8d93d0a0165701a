package parse

import "hauberk/api"

// reader goes through a text's tokens, up to the first at which something is wrong.
type reader struct {
	tokens    []api.Token
	strengths strengths
	wrong     api.Errno
}

// now is the token that comes next: the last of all, a TEnd, is never gone past.
func (r *reader) now() api.Token { return r.tokens[0] }

// ahead is the token that is so many behind the one that is now.
func (r *reader) ahead(n int) api.Token { return r.tokens[min(n, len(r.tokens)-1)] }

func (r *reader) step() { r.tokens = r.tokens[1:] }

// fail tells what is wrong at the token that is now. The text ends there from then on: so all that is being read comes to its end, and only the first fault is told.
func (r *reader) fail(e api.Errno) {
	if r.wrong == api.OK {
		r.wrong = e
		r.tokens = []api.Token{{Kind: api.TEnd, At: r.now().At}}
	}
}

// is tells by a token's text alone whether it stands there: no tokens of two kinds have the same.
func (r *reader) is(text string) bool { return r.now().Text == text }

// take goes past a token, if it stands there.
func (r *reader) take(text string) bool {
	found := r.is(text)
	if found {
		r.step()
	}
	return found
}

// want goes past a token that must stand there.
func (r *reader) want(text string) {
	if !r.take(text) {
		r.fail(api.ErrSyntax)
	}
}

// one goes past the token of a kind, which must stand there, and answers its text.
func (r *reader) one(kind int) string {
	t := r.now()
	if t.Kind != kind {
		r.fail(api.ErrSyntax)
		return ""
	}
	r.step()
	return t.Text
}

// until reads a list without signs between, and the sign at its end.
func until[T any](r *reader, end string, read func() T) []T {
	var l []T
	for r.wrong == api.OK && !r.take(end) {
		l = append(l, read())
	}
	return l
}

// between reads a list with commas between, of params or arguments, and the ) at its end.
func between[T any](r *reader, read func() T) []T {
	if r.take(")") {
		return nil
	}
	l := []T{read()}
	for r.take(",") {
		if len(l) == api.MaxParams {
			r.fail(api.ErrFull)
			return nil
		}
		l = append(l, read())
	}
	r.want(")")
	return l
}
