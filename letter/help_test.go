package letter_test

import (
	"bytes"
	"encoding/binary"
	"fmt"
	"hash/crc32"
	"reflect"
	"slices"
	"testing"
)

// line: bytes one behind the other; wire's numbers are the library's signed varints.
type line []byte

func (l line) byte(b int) line { return append(l, byte(b)) }

func (l line) int(numbers ...int64) line {
	for _, n := range numbers {
		l = binary.AppendVarint(l, n)
	}
	return l
}

func (l line) row(b []byte) line { return append(l.int(int64(len(b))), b...) }

// frame: of what stands in the line, its length, its sum and itself.
func (l line) frame() []byte {
	out := binary.LittleEndian.AppendUint32(nil, uint32(len(l)))
	out = binary.LittleEndian.AppendUint32(out, crc32.ChecksumIEEE(l))
	return append(out, l...)
}

// beyond: rows of digits that are no number, being greater than all.
func beyond() [][]byte {
	return [][]byte{
		{255, 255, 255, 255, 255, 255, 255, 255, 255, 2},
		{255, 255, 255, 255, 255, 255, 255, 255, 255, 127},
		{254, 255, 255, 255, 255, 255, 255, 255, 255, 129, 1},
		{128, 128, 128, 128, 128, 128, 128, 128, 128, 2},
	}
}

// firstNumber: how many bytes the number has that b begins with.
func firstNumber(b []byte) int {
	_, size := binary.Varint(b)
	return size
}

// isNothing: zero, an empty list too.
func isNothing(v reflect.Value) bool {
	switch v.Kind() {
	case reflect.Slice:
		return v.Len() == 0
	case reflect.Struct:
		for i := range v.NumField() {
			if !isNothing(v.Field(i)) {
				return false
			}
		}
		return true
	}
	return v.IsZero()
}

// same: all fields, an empty list like none.
func same[T any](a, b T) bool { return sameValues(reflect.ValueOf(a), reflect.ValueOf(b)) }

func sameValues(a, b reflect.Value) bool {
	switch a.Kind() {
	case reflect.Slice:
		if a.Len() != b.Len() {
			return false
		}
		if a.Type().Elem().Kind() == reflect.Uint8 {
			return bytes.Equal(a.Bytes(), b.Bytes())
		}
		for i := range a.Len() {
			if !sameValues(a.Index(i), b.Index(i)) {
				return false
			}
		}
		return true
	case reflect.Struct:
		for i := range a.NumField() {
			if !sameValues(a.Field(i), b.Field(i)) {
				return false
			}
		}
		return true
	}
	return a.Equal(b)
}

// short: something as a text, cut.
func short(x any) string {
	s := fmt.Sprintf("%+v", x)
	if b, ok := x.([]byte); ok {
		s = fmt.Sprintf("%x", b[:min(len(b), 200)])
	}
	return s[:min(len(s), 400)]
}

func anyNumber(next func(int) int) int64 {
	return int64(next(1<<31)) >> next(31) << []int{0, 0, 0, 32}[next(4)]
}

// turnBytes tries rows of bytes that are nearly b.
func turnBytes(next func(int) int, b []byte, try func([]byte)) {
	for range min(len(b), 200) {
		i := next(len(b))
		for _, x := range []byte{0, 1, 2, 3, 4, 11, '/', 127, 128, 255, b[i] ^ 1, b[i] ^ 128, b[i] + 2, b[i] - 2} {
			other := slices.Clone(b)
			other[i] = x
			try(other)
		}
		try(slices.Delete(slices.Clone(b), i, i+1))
		try(slices.Insert(slices.Clone(b), i, byte(next(256))))
	}
}

// eachTurn tries b with each of its bytes turned to each other one; of long rows some of them.
func eachTurn(b []byte, try func([]byte)) {
	for i := range b {
		if i > 40 && i%97 > 0 && i < len(b)-3 {
			continue
		}
		other := slices.Clone(b)
		for x := range 256 {
			if byte(x) != b[i] && (i < 40 || x%31 == 0) {
				other[i] = byte(x)
				try(other)
			}
		}
	}
}

// room is how many things stand in a list's spare room.
const room = 9

// junk is something that no test's list holds.
func junk(v reflect.Value) {
	switch {
	case v.CanInt():
		v.SetInt(-99)
	case v.CanUint():
		v.SetUint(0xee)
	case v.Kind() == reflect.String:
		v.SetString("junk")
	case v.Kind() == reflect.Bool:
		v.SetBool(true)
	case v.Kind() == reflect.Struct:
		for i := range v.NumField() {
			junk(v.Field(i))
		}
	}
}

// roomy: the same thing, each list of it new and with spare room that is filled with junk.
func roomy[T any](x T) T {
	v := reflect.New(reflect.TypeFor[T]()).Elem()
	v.Set(reflect.ValueOf(x))
	makeRoom(v)
	return v.Interface().(T)
}

func makeRoom(v reflect.Value) {
	switch v.Kind() {
	case reflect.Slice:
		more := reflect.MakeSlice(v.Type(), v.Len()+room, v.Len()+room)
		reflect.Copy(more, v)
		for i := range more.Len() {
			if i < v.Len() {
				makeRoom(more.Index(i))
			} else {
				junk(more.Index(i))
			}
		}
		v.Set(more.Slice(0, v.Len()))
	case reflect.Struct:
		for i := range v.NumField() {
			makeRoom(v.Field(i))
		}
	}
}

// checkRoom: given is as roomy made it of like, spare room too.
func checkRoom[T any](t *testing.T, given, like T) {
	t.Helper()
	if !same(given, like) {
		t.Errorf("changed: %s, was %s", short(given), short(like))
	}
	eachList(reflect.ValueOf(given), func(l reflect.Value) {
		full := l.Slice(0, l.Cap())
		for i := l.Len(); i < l.Len()+room; i++ {
			want := reflect.New(l.Type().Elem()).Elem()
			junk(want)
			if !sameValues(full.Index(i), want) {
				t.Errorf("spare room is changed: %s", short(full.Index(i).Interface()))
			}
		}
	})
}

// eachList goes through the lists that lie in v, and v itself, the inner ones first.
func eachList(v reflect.Value, do func(reflect.Value)) {
	switch v.Kind() {
	case reflect.Slice:
		for i := range v.Len() {
			eachList(v.Index(i), do)
		}
		do(v)
	case reflect.Struct:
		for i := range v.NumField() {
			eachList(v.Field(i), do)
		}
	}
}

// spoil overwrites each list of x and its spare room.
func spoil(x any) {
	eachList(reflect.ValueOf(x), func(l reflect.Value) {
		full := l.Slice(0, l.Cap())
		for i := range full.Len() {
			junk(full.Index(i))
		}
	})
}

// checkApart: no two lists of x lie in one another, spare room too.
func checkApart(t *testing.T, x any) {
	t.Helper()
	type span struct{ from, to uintptr }
	var spans []span
	eachList(reflect.ValueOf(x), func(l reflect.Value) {
		if l.Cap() > 0 {
			from := l.Pointer()
			spans = append(spans, span{from, from + uintptr(l.Cap())*l.Type().Elem().Size()})
		}
	})
	for i, a := range spans {
		for _, b := range spans[:i] {
			if a.from < b.to && b.from < a.to {
				t.Errorf("two lists of %s share memory", short(x))
			}
		}
	}
}
