package letter

import (
	"beadle/api"
	"beadle/wire"
)

// pen takes what stands in fields to bytes, or back from bytes to fields: it has a writer, or else a reader.
type pen struct {
	writer *wire.Writer
	reader *wire.Reader
}

func (p pen) reads() bool {
	return p.reader != nil
}

// written is a frame of what do writes.
func written(do func(pen)) ([]byte, api.Errno) {
	w := wire.NewWriter()
	if errno := attempt(func() { do(pen{writer: w}) }); errno != api.OK {
		return nil, errno
	}
	return wire.Frame(w.Done())
}

// read has do read what the frame holds that b is, to its end.
func read(b []byte, do func(pen)) api.Errno {
	return attempt(func() {
		held, size, errno := wire.Unframe(b)
		must(errno == api.OK && size == len(b))
		r := wire.NewReader(held)
		do(pen{reader: r})
		must(r.Whole())
	})
}

// attempt is why do has given up; OK, if it has not.
func attempt(do func()) (errno api.Errno) {
	defer func() {
		if why := recover(); why != nil {
			// Only an Errno is a giving up: anything else is a fault of the program's own, and may not pass for wrong bytes.
			errno = why.(api.Errno)
		}
	}()
	do()
	return api.OK
}

// must gives up what can't be.
func must(ok bool) {
	if !ok {
		panic(api.ErrShape)
	}
}

func goThrough(steps []func()) {
	for _, step := range steps {
		step()
	}
}

// number takes a number from least to most out of its field, where 0 is left, or back to it.
func number[T ~uint8 | ~int | ~int64](p pen, field *T, least, most int64) {
	n := int64(*field)
	if p.reads() {
		n = p.reader.Int()
	}
	// Asked ahead of narrowing, so that no number passes for another one.
	must(least <= n && n <= most)
	*field = T(n)
	if !p.reads() {
		p.writer.Int(n)
		*field = 0
	}
}

// row takes from least to most bytes out of their field, where none are left, or back to it.
func row(p pen, field *[]byte, least, most int) {
	if p.reads() {
		*field = p.reader.Bytes(most)
	}
	must(least <= len(*field) && len(*field) <= most)
	if !p.reads() {
		p.writer.Bytes(*field)
		*field = nil
	}
}

// whole takes what has bytes of its own out of its field, where nothing is left, or back to it; put and get know these bytes.
func whole[T any](p pen, field *T, put func(T) ([]byte, api.Errno), get func([]byte) (T, api.Errno)) {
	if p.reads() {
		got, errno := get(p.reader.Bytes(api.MaxBytes))
		must(errno == api.OK)
		*field = got
		return
	}
	b, errno := put(*field)
	must(errno == api.OK)
	p.writer.Bytes(b)
	*field = *new(T)
}
