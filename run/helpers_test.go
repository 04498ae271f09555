package run

import (
	"fmt"
	"strconv"
	"strings"
	"testing"

	"understudy/api"
	"understudy/eval"
	"understudy/parse"
)

// built is how many objects there are before a program begins.
const built = 32

var (
	undefined = api.Value{}
	null      = api.Value{Kind: api.Null}
	yes, no   = api.Value{Kind: api.Bool, Num: 1}, api.Value{Kind: api.Bool}
	five      = api.Value{Kind: api.Number, Num: 5}
)

func obj(o int) api.Value { return api.Value{Kind: api.Object, Num: o} }

func name(s string) api.Key { return api.Key{Str: s} }

// dataDesc is a data property: of the signs w, e and c: Writable, Enumerable
// and Configurable.
func dataDesc(v api.Value, signs string) api.Desc {
	return api.Desc{
		HasValue: true, HasWritable: true, HasEnumerable: true, HasConfigurable: true, Value: v,
		Writable:   strings.Contains(signs, "w"),
		Enumerable: strings.Contains(signs, "e"), Configurable: strings.Contains(signs, "c"),
	}
}

// sides is an accessor property.
func sides(get, set api.Value, signs string) api.Desc {
	return api.Desc{
		HasGet: true, HasSet: true, HasEnumerable: true, HasConfigurable: true, Get: get, Set: set,
		Enumerable: strings.Contains(signs, "e"), Configurable: strings.Contains(signs, "c"),
	}
}

func plenty() api.Bounds { return api.Bounds{Fuel: 1000000, Room: 10000, Deep: 1000} }

func show(x any) string { return fmt.Sprintf("%+v", x) }

// tell writes an outcome down: what was printed, each line behind a `|`, and
// how it ended.
func tell(o api.Outcome) string {
	var l []string
	for _, line := range o.Out {
		l = append(l, "|"+line)
	}
	end := map[int]string{api.OValue: "value", api.OThrow: "throw", api.OSyntax: "syntax", api.OFuel: "fuel", api.ORoom: "room", api.ODeep: "deep"}[o.Tag]
	if end == "" {
		end = "tag " + strconv.Itoa(o.Tag)
	}
	if o.At != 0 || o.Tag == api.OSyntax {
		end += " " + strconv.Itoa(o.At)
	}
	if o.Shown != "" || o.Tag == api.OValue || o.Tag == api.OThrow {
		end += " " + o.Shown
	}
	return strings.Join(append(l, end), " ")
}

func told(source string, b api.Bounds) string { return tell(Run([]byte(source), b)) }

// rows are the lines of a table `source => outcome`.
func rows(table string) [][2]string {
	var l [][2]string
	for line := range strings.SplitSeq(table, "\n") {
		source, want, ok := strings.Cut(line, " => ")
		if ok {
			l = append(l, [2]string{strings.TrimSpace(source), strings.TrimSpace(want)})
		}
	}
	return l
}

// gives checks a table of sources that are executed with plenty of everything.
func gives(t *testing.T, table string) {
	t.Helper()
	for _, row := range rows(table) {
		if got := told(row[0], plenty()); got != row[1] {
			t.Errorf("P2101: %s\ngives %s\nwant  %s", row[0], got, row[1])
		}
	}
}

// executed executes a program, which must have no errors, by a machine of its
// own.
func executed(t *testing.T, source string, b api.Bounds) (*eval.Machine, api.Reply) {
	t.Helper()
	n, at, e := parse.Parse([]byte(source))
	if e != api.OK {
		t.Fatalf("Parse(%q) has error %d at %d", source, e, at)
	}
	m := eval.New(b)
	return m, m.Run(n)
}

// needs returns the least bounds with which a program ends as with plenty.
func needs(t *testing.T, source string) api.Bounds {
	t.Helper()
	m, _ := executed(t, source, plenty())
	left, deepest := m.World().Left()
	return api.Bounds{Fuel: plenty().Fuel - left, Room: m.World().Heap.Len(), Deep: deepest}
}
