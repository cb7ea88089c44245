package tests

import (
	"fmt"
	"reflect"
	"strconv"
	"strings"
	"testing"
)

// A number no answer has any business to hold: it marks the spare room behind lists.
const spareNumber = -777777

const spareItems = 3

// withRoom answers v copied all the way down, with marked spare room behind each list that it reaches.
func withRoom[T any](v T) T {
	return roomyCopy(reflect.ValueOf(&v).Elem()).Interface().(T)
}

func roomyCopy(v reflect.Value) reflect.Value {
	made := reflect.New(v.Type()).Elem()
	switch v.Kind() {
	case reflect.Slice:
		whole := reflect.MakeSlice(v.Type(), v.Len()+spareItems, v.Len()+spareItems)
		for i := range v.Len() {
			whole.Index(i).Set(roomyCopy(v.Index(i)))
		}
		for i := range spareItems {
			mark(whole.Index(v.Len() + i))
		}
		made.Set(whole.Slice(0, v.Len()))
	case reflect.Struct:
		for i := range v.NumField() {
			made.Field(i).Set(roomyCopy(v.Field(i)))
		}
	default:
		made.Set(v)
	}
	return made
}

func mark(v reflect.Value) {
	switch v.Kind() {
	case reflect.Uint8:
		v.SetUint(spareByte)
	case reflect.Int:
		v.SetInt(spareNumber)
	case reflect.Bool:
		v.SetBool(true)
	case reflect.Struct:
		for i := range v.NumField() {
			mark(v.Field(i))
		}
	}
}

// dump writes out all that v reaches, spare room with it.
func dump(v any) string {
	var out strings.Builder
	dumpInto(&out, reflect.ValueOf(v))
	return out.String()
}

func dumpInto(out *strings.Builder, v reflect.Value) {
	switch v.Kind() {
	case reflect.Slice:
		fmt.Fprintf(out, "[%d:", v.Len())
		whole := v
		if v.Cap() > 0 {
			whole = v.Slice(0, v.Cap())
		}
		for i := range whole.Len() {
			dumpInto(out, whole.Index(i))
			out.WriteByte(' ')
		}
		out.WriteByte(']')
	case reflect.Struct:
		out.WriteByte('{')
		for i := range v.NumField() {
			dumpInto(out, v.Field(i))
			out.WriteByte(' ')
		}
		out.WriteByte('}')
	case reflect.Interface:
		dumpInto(out, v.Elem())
	default:
		fmt.Fprint(out, v.Interface())
	}
}

type stretch struct {
	from, to uintptr
	what     string
}

// stretches answers the memory of each list that v reaches, up to its capacity.
func stretches(v reflect.Value, what string) []stretch {
	var all []stretch
	switch v.Kind() {
	case reflect.Slice:
		if v.Cap() > 0 {
			from := v.Pointer()
			all = append(all, stretch{from, from + uintptr(v.Cap())*v.Type().Elem().Size(), what})
		}
		for i := range v.Len() {
			all = append(all, stretches(v.Index(i), fmt.Sprintf("%s[%d]", what, i))...)
		}
	case reflect.Struct:
		for i := range v.NumField() {
			all = append(all, stretches(v.Field(i), what+"."+v.Type().Field(i).Name)...)
		}
	}
	return all
}

// mustBeNew fails if a list of an answer shares memory with another list of the answers or with an argument's.
func mustBeNew(t *testing.T, what string, answers, args []any) {
	t.Helper()
	var mine, theirs []stretch
	for i, answer := range answers {
		mine = append(mine, stretches(reflect.ValueOf(answer), fmt.Sprintf("answer %d", i))...)
	}
	for i, arg := range args {
		theirs = append(theirs, stretches(reflect.ValueOf(arg), fmt.Sprintf("argument %d", i))...)
	}
	for i, a := range mine {
		for _, b := range append(theirs, mine[i+1:]...) {
			if a.from < b.to && b.from < a.to {
				t.Fatalf("%s: %s and %s share memory", what, a.what, b.what)
			}
		}
	}
}

// mustKeep runs call, which answers what it was answered, and fails if that wrote into args or shares memory with them or within itself.
func mustKeep(t *testing.T, what string, args []any, call func() []any) {
	t.Helper()
	was := dump(args)
	answers := call()
	if is := dump(args); is != was {
		t.Fatalf("%s: the arguments were\n%s\nand are\n%s", what, was, is)
	}
	if strings.Contains(dump(answers), fmt.Sprint(spareNumber)) {
		t.Fatalf("%s: spare room was handed out", what)
	}
	mustBeNew(t, what, answers, args)
}

// same tells whether two values are alike, where an empty list and nil are the same value.
func same(a, b any) bool {
	return plain(reflect.ValueOf(a)) == plain(reflect.ValueOf(b))
}

func plain(v reflect.Value) string {
	var out strings.Builder
	switch v.Kind() {
	case reflect.Slice:
		if v.Type().Elem().Kind() == reflect.Uint8 {
			return strconv.Quote(string(v.Bytes()))
		}
		fmt.Fprintf(&out, "[%d:", v.Len())
		for i := range v.Len() {
			out.WriteString(plain(v.Index(i)) + " ")
		}
		out.WriteByte(']')
	case reflect.Struct:
		out.WriteByte('{')
		for i := range v.NumField() {
			out.WriteString(plain(v.Field(i)) + " ")
		}
		out.WriteByte('}')
	case reflect.Interface:
		return plain(v.Elem())
	default:
		fmt.Fprint(&out, v.Interface())
	}
	return out.String()
}
