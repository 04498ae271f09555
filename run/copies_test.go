package run

import (
	"slices"
	"strings"
	"sync"
	"testing"

	"understudy/api"
)

const printer = "let o = {a: [1]}; print(o); print('b', 2); o.a.length; throw o.a;"

// spare returns the bytes of s in a slice with spare capacity, and what stands
// in all of it.
func spare(s string) (b, all []byte) {
	all = []byte(s + "rest; rest")
	return all[:len(s)], all
}

// TestSourcesAreNotModified: P102, neither are the bytes behind their end.
func TestSourcesAreNotModified(t *testing.T) {
	for _, source := range []string{"", printer, "a b", "return;", strings.Repeat("(", 300), "'\\u0041\xff"} {
		b, all := spare(source)
		Run(b, plenty())
		Seen(b, plenty())
		if want := source + "rest; rest"; string(all) != want {
			t.Errorf("P2102: %q has become %q", want, all)
		}
	}
}

// TestSourcesAreNotKept: P102, an outcome does not follow the source.
func TestSourcesAreNotKept(t *testing.T) {
	b := []byte("print('abc'); throw 'abc';")
	o, l := Run(b, plenty()), Seen(b, plenty())
	want, seen := show(o), show(l)
	for i := range b {
		b[i] = 'z'
	}
	if show(o) != want || show(l) != seen {
		t.Errorf("P2102: %s has become %+v, or %s %+v", want, o, seen, l)
	}
}

// TestResultsAreNew: P102, what is done with the lists of one result is to be
// seen in no other.
func TestResultsAreNew(t *testing.T) {
	b := []byte(printer)
	want, seen := show(Run(b, plenty())), show(Seen(b, plenty()))
	o, l := Run(b, plenty()), Seen(b, plenty())
	for i := range o.Out {
		o.Out[i] = "z"
	}
	_ = append(o.Out[:1], "y", "y", "y")
	for i := range l {
		for j := range l[i].Ask.List {
			l[i].Ask.List[j] = five
		}
		_ = append(l[i].Ask.List, five)
		l[i] = api.Seen{}
	}
	if show(Run(b, plenty())) != want || show(Seen(b, plenty())) != seen {
		t.Error("P2102: a result has changed another one")
	}
}

// TestRunsAreIndependent: P102, a program leaves nothing behind for the next
// one, in whatever order they are executed.
func TestRunsAreIndependent(t *testing.T) {
	sources := []string{"Object.z = 1; print(Object.z);", "Object.z;", "print = 1;", "let print = 1;", "print(typeof print);", "null.a;", "a b", "return;", "Reflect.preventExtensions(Object);", "Symbol();", printer}
	var want []string
	for _, s := range sources {
		want = append(want, told(s, plenty()))
	}
	d := dice(2)
	for range 200 {
		i := d.roll(len(sources))
		if got := told(sources[i], plenty()); got != want[i] {
			t.Fatalf("P2102: %s gives %s, and before %s", sources[i], got, want[i])
		}
	}
	if want[1] != "value undefined" {
		t.Errorf("P2102: another program's property is %s", want[1])
	}
}

// TestRunsAtTheSameTime share nothing.
func TestRunsAtTheSameTime(t *testing.T) {
	var sources []string
	d := dice(4)
	for range 40 {
		sources = append(sources, d.program())
	}
	b := api.Bounds{Fuel: 3000, Room: 300, Deep: 30}
	var want []string
	for _, s := range sources {
		want = append(want, told(s, b))
	}
	var all sync.WaitGroup
	got := make([][]string, 8)
	for i := range got {
		all.Go(func() {
			for _, s := range sources {
				got[i] = append(got[i], told(s, b))
			}
		})
	}
	all.Wait()
	for i := range got {
		if !slices.Equal(got[i], want) {
			t.Errorf("P2102: the outcomes of %d differ", i)
		}
	}
}
