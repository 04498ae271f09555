package mop

import (
	"fmt"
	"math"
	"testing"

	"understudy/api"
)

// row is an array whose properties are length, with the signs, and props.
func (w world) row(length int, signs string, ext bool, props ...api.Entry) api.Value {
	all := append([]api.Entry{field("length", number(length), signs)}, props...)
	return w.add(api.Thing{Kind: api.Array, Proto: null, Extensible: ext, Props: all})
}

// is checks the properties of v.
func (w world) is(what string, v api.Value, props ...api.Entry) {
	w.t.Helper()
	if got := w.thing(v).Props; show(got) != show(props) {
		w.t.Fatalf("%s: the properties are %+v, want %+v", what, got, props)
	}
}

func (w world) define(v api.Value, k string, d api.Desc) api.Reply {
	return w.do(api.MDefine, v, api.Ask{Key: name(k), Desc: d})
}

const maxLength = 1<<32 - 1

func TestElements(t *testing.T) {
	ok, not := api.Reply{OK: true}, api.Reply{}
	for _, x := range []struct {
		key    string
		length int
		signs  string
		ext    bool
		want   api.Reply
		after  int
	}{
		{"0", 0, "w", true, ok, 1}, {"1", 0, "w", true, ok, 2}, {"7", 3, "w", true, ok, 8}, {"7", 7, "w", true, ok, 8}, {"7", 8, "w", true, ok, 8}, {"7", 20, "w", true, ok, 20},
		{"0", 0, "", true, not, 0}, {"7", 7, "", true, not, 7}, {"7", 8, "", true, ok, 8}, {"6", 8, "", true, ok, 8},
		{"7", 7, "w", false, not, 7}, {"7", 8, "w", false, not, 8}, {"7", 8, "", false, not, 8},
		{"4294967294", 0, "w", true, ok, maxLength}, {"4294967294", 5, "", true, not, 5}, {"4294967294", maxLength, "", true, ok, maxLength},
		{"4294967295", 0, "w", true, ok, 0}, {"4294967295", 0, "", true, ok, 0},
		{"07", 0, "w", true, ok, 0}, {"-1", 0, "w", true, ok, 0}, {"a", 0, "", true, ok, 0}, {"a", 0, "", false, not, 0}, {"Length", 0, "", true, ok, 0},
	} {
		what := fmt.Sprintf("P903: %+v", x)
		w := newWorld(t)
		v := w.row(x.length, x.signs, x.ext)
		d := dataDesc(str("v"), "c")
		w.replies(what, w.define(v, x.key, d), x.want)
		after := []api.Entry{field("length", number(x.after), x.signs)}
		if x.want.OK {
			after = append(after, api.Entry{Key: name(x.key), Desc: d})
		}
		w.is(what, v, after...)
		if got := w.steps(0); got != "define 0 "+x.key {
			t.Errorf("%s: steps %s", what, got)
		}
	}
}

// TestElementsThatCannotChange: a definition that is not allowed does not
// change the length.
func TestElementsThatCannotChange(t *testing.T) {
	w := newWorld(t)
	for _, length := range []int{3, 5} {
		v := w.row(length, "w", true, field("3", number(1), ""))
		w.replies("P903", w.define(v, "3", only(number(2))), api.Reply{})
		w.replies("P903", w.define(v, "3", api.Desc{HasConfigurable: true, Configurable: true}), api.Reply{})
		w.is("P903", v, field("length", number(length), "w"), field("3", number(1), ""))
	}
	v := w.row(0, "w", true)
	w.throwsError("P903", w.define(v, "3", api.Desc{HasValue: true, HasGet: true}), "TypeError")
	w.throwsError("P903", w.define(v, "a", api.Desc{HasValue: true, HasGet: true}), "TypeError")
	w.is("P903", v, field("length", number(0), "w"))
}

func TestSymbolsAreNoElements(t *testing.T) {
	w := newWorld(t)
	v := w.row(0, "", true)
	for i, k := range []api.Key{{Sym: 1}, {Sym: 2, Str: "0"}, {Sym: 3, Str: "length"}} {
		w.replies("P903", w.do(api.MDefine, v, api.Ask{Key: k, Desc: only(number(9))}), api.Reply{OK: true})
		if l := w.do(api.MKeys, v, api.Ask{}).Keys; len(l) != i+2 {
			t.Errorf("P903: keys %v", l)
		}
	}
	w.replies("P903", w.do(api.MGetOwn, v, api.Ask{Key: name("length")}), api.Reply{Has: true, Desc: dataDesc(number(0), "")})
}

func TestLengthsThatAreNone(t *testing.T) {
	w := newWorld(t)
	for _, signs := range []string{"w", ""} {
		for _, v := range []api.Value{undefined, null, yes, no, str("1"), symbol(1), obj(0), number(-1), number(1 << 32), number(math.MinInt), number(math.MaxInt), {Kind: 88}} {
			a := w.row(2, signs, true, field("0", yes, "wec"))
			for _, d := range []api.Desc{only(v), dataDesc(v, ""), dataDesc(v, "wec")} {
				w.throwsError(fmt.Sprintf("P903: length %+v", v), w.define(a, "length", d), "RangeError")
				w.is("P903", a, field("length", number(2), signs), field("0", yes, "wec"))
			}
		}
	}
}

func TestLengthThatGrowsOrStays(t *testing.T) {
	elements := []api.Entry{field("0", number(1), "wec"), field("1", number(1), "")}
	for _, x := range []struct {
		signs string
		to    int
		d     api.Desc
		want  bool
		then  string
	}{
		{"w", 2, api.Desc{}, true, "w"}, {"w", 3, api.Desc{}, true, "w"}, {"w", maxLength, api.Desc{}, true, "w"},
		{"w", 2, api.Desc{HasWritable: true}, true, ""}, {"w", 9, api.Desc{HasWritable: true}, true, ""}, {"w", 9, api.Desc{HasWritable: true, Writable: true}, true, "w"},
		{"w", 9, api.Desc{HasEnumerable: true, HasConfigurable: true}, true, "w"},
		{"w", 9, api.Desc{HasEnumerable: true, Enumerable: true}, false, "w"}, {"w", 9, api.Desc{HasConfigurable: true, Configurable: true}, false, "w"},
		{"", 2, api.Desc{}, true, ""}, {"", 3, api.Desc{}, false, ""}, {"", 2, api.Desc{HasWritable: true}, true, ""}, {"", 2, api.Desc{HasWritable: true, Writable: true}, false, ""},
	} {
		what := fmt.Sprintf("P903: %+v", x)
		w := newWorld(t)
		v := w.row(2, x.signs, false, elements...)
		x.d.HasValue, x.d.Value = true, number(x.to)
		w.replies(what, w.define(v, "length", x.d), api.Reply{OK: x.want})
		if !x.want {
			x.to = 2
		}
		w.is(what, v, append([]api.Entry{field("length", number(x.to), x.then)}, elements...)...)
	}
}

func TestLengthThatShrinks(t *testing.T) {
	a, three, one := field("a", number(1), "wec"), field("3", number(1), "c"), field("1", number(1), "wec")
	fixed := field("2", number(1), "w")
	sym := api.Entry{Key: api.Key{Sym: 1}, Desc: dataDesc(number(1), "c")}
	all := []api.Entry{three, a, one, sym}
	withFixed := []api.Entry{three, fixed, a, one, sym}
	for _, x := range []struct {
		signs string
		props []api.Entry
		to    int
		d     api.Desc
		want  bool
		n     int
		then  string
		rest  []api.Entry
	}{
		{"w", all, 4, api.Desc{}, true, 4, "w", all},
		{"w", all, 3, api.Desc{}, true, 3, "w", []api.Entry{a, one, sym}},
		{"w", all, 2, api.Desc{}, true, 2, "w", []api.Entry{a, one, sym}},
		{"w", all, 1, api.Desc{}, true, 1, "w", []api.Entry{a, sym}},
		{"w", all, 0, api.Desc{}, true, 0, "w", []api.Entry{a, sym}},
		{"w", all, 0, api.Desc{HasWritable: true}, true, 0, "", []api.Entry{a, sym}},
		{"w", all, 0, api.Desc{HasWritable: true, Writable: true}, true, 0, "w", []api.Entry{a, sym}},
		{"w", all, 0, api.Desc{HasEnumerable: true, HasConfigurable: true}, true, 0, "w", []api.Entry{a, sym}},
		{"w", withFixed, 3, api.Desc{}, true, 3, "w", []api.Entry{fixed, a, one, sym}},
		{"w", withFixed, 2, api.Desc{}, false, 3, "w", []api.Entry{fixed, a, one, sym}},
		{"w", withFixed, 0, api.Desc{}, false, 3, "w", []api.Entry{fixed, a, one, sym}},
		{"w", withFixed, 0, api.Desc{HasWritable: true}, false, 3, "", []api.Entry{fixed, a, one, sym}},
		{"", all, 4, api.Desc{}, false, 5, "", all},
		{"", all, 0, api.Desc{}, false, 5, "", all},
		{"", all, 0, api.Desc{HasWritable: true}, false, 5, "", all},
		{"w", all, 0, api.Desc{HasEnumerable: true, Enumerable: true}, false, 5, "w", all},
		{"w", all, 0, api.Desc{HasConfigurable: true, Configurable: true}, false, 5, "w", all},
	} {
		for _, ext := range []bool{true, false} {
			what := fmt.Sprintf("P903: from %s to %d by %+v", x.signs, x.to, x.d)
			w := newWorld(t)
			v := w.row(5, x.signs, ext, x.props...)
			x.d.HasValue, x.d.Value = true, number(x.to)
			w.replies(what, w.define(v, "length", x.d), api.Reply{OK: x.want})
			w.is(what, v, append([]api.Entry{field("length", number(x.n), x.then)}, x.rest...)...)
			if got := w.steps(0); got != "define 0 length" {
				t.Errorf("%s: steps %s", what, got)
			}
			if w.thing(v).Extensible != ext {
				t.Errorf("%s: Extensible has changed", what)
			}
		}
	}
}

func TestLengthWithoutAValue(t *testing.T) {
	for _, x := range []struct {
		d    api.Desc
		want bool
		then string
	}{
		{api.Desc{}, true, "w"}, {api.Desc{HasWritable: true}, true, ""}, {api.Desc{HasWritable: true, Writable: true}, true, "w"},
		{api.Desc{HasEnumerable: true}, true, "w"}, {api.Desc{HasEnumerable: true, Enumerable: true}, false, "w"},
		{api.Desc{HasConfigurable: true, Configurable: true}, false, "w"}, {api.Desc{HasGet: true}, false, "w"},
	} {
		w := newWorld(t)
		v := w.row(2, "w", true, field("0", yes, "wec"))
		w.replies("P903", w.define(v, "length", x.d), api.Reply{OK: x.want})
		w.is("P903", v, field("length", number(2), x.then), field("0", yes, "wec"))
	}
}

// TestLengthOfOthers: only arrays have a length of this sort.
func TestLengthOfOthers(t *testing.T) {
	w := newWorld(t)
	for _, kind := range []int{api.Plain, api.Function, api.Bound, api.Error} {
		v := w.add(api.Thing{Kind: kind, Proto: null, Extensible: true, Props: []api.Entry{field("length", number(5), "w"), field("4", yes, "wec")}})
		w.replies("P903", w.define(v, "length", only(str("a"))), api.Reply{OK: true})
		w.replies("P903", w.define(v, "9", only(yes)), api.Reply{OK: true})
		w.is("P903", v, field("length", str("a"), "w"), field("4", yes, "wec"), field("9", yes, ""))
	}
}

// TestArraysAndDescriptorsThatAreNotRight: whatever the key is and whatever the
// array would say of the value, they are refused first.
func TestArraysAndDescriptorsThatAreNotRight(t *testing.T) {
	w := newWorld(t)
	f := w.custom()
	var wrong []api.Desc
	for _, v := range []api.Value{undefined, str("1"), number(-1), number(0), number(2), number(3), number(9), number(1 << 32)} {
		wrong = append(wrong,
			api.Desc{HasValue: true, Value: v, HasGet: true}, api.Desc{HasValue: true, Value: v, HasSet: true, Set: f},
			api.Desc{HasValue: true, Value: v, HasWritable: true, HasGet: true, Get: f},
			api.Desc{HasValue: true, Value: v, Get: f}, api.Desc{HasValue: true, Value: v, Writable: true},
			api.Desc{HasValue: true, Value: v, Enumerable: true}, api.Desc{HasValue: true, Value: v, Configurable: true},
		)
	}
	wrong = append(wrong,
		api.Desc{HasWritable: true, HasGet: true}, api.Desc{HasGet: true, Get: number(1)}, api.Desc{HasSet: true, Set: null},
		api.Desc{Value: number(1)}, api.Desc{Writable: true},
	)
	for i := range 8 {
		signs, ext := []string{"w", ""}[i&1], i&2 != 0
		props := []api.Entry{field("1", yes, []string{"wec", ""}[i>>2]), field("a", yes, "wec")}
		v := w.row(3, signs, ext, props...)
		through := w.proxy(v, w.plain(null))
		for _, d := range wrong {
			for _, k := range []api.Key{name("length"), name("0"), name("1"), name("3"), name("4294967294"), name("a"), name("b"), {Sym: 1}} {
				what := fmt.Sprintf("P903: %+v of %+v with length %q, ext %v", d, k, signs, ext)
				logged := len(w.log)
				w.throwsError(what, w.do(api.MDefine, v, api.Ask{Key: k, Desc: d}), "TypeError")
				if len(w.log) != logged {
					t.Fatalf("%s: it is in the log", what)
				}
				w.throwsError(what+", by a proxy", w.do(api.MDefine, through, api.Ask{Key: k, Desc: d}), "TypeError")
				w.is(what, v, append([]api.Entry{field("length", number(3), signs)}, props...)...)
			}
		}
	}
}

func TestMSetOfArrays(t *testing.T) {
	w := newWorld(t)
	v := w.array(number(1), number(2), number(3))
	set := func(k string, to api.Value) api.Reply {
		return w.do(api.MSet, v, api.Ask{Key: name(k), Value: to, Receiver: v})
	}
	w.replies("P903", set("4", yes), api.Reply{OK: true})
	w.replies("P903", set("length", number(1)), api.Reply{OK: true})
	w.throwsError("P903", set("length", str("1")), "RangeError")
	w.is("P903", v, field("length", number(1), "w"), field("0", number(1), "wec"))
	w.replies("P903", w.do(api.MDelete, v, api.Ask{Key: name("0")}), api.Reply{OK: true})
	w.replies("P903", w.do(api.MDelete, v, api.Ask{Key: name("length")}), api.Reply{})
	w.is("P903", v, field("length", number(1), "w"))
}

// TestArraysThatAreNotValid: nothing is promised for them but an end.
func TestArraysThatAreNotValid(t *testing.T) {
	w := newWorld(t)
	f := w.custom()
	for _, props := range [][]api.Entry{
		nil, {field("length", str("a"), "w")}, {field("length", number(-4), "wec")}, {field("length", number(math.MaxInt), "wec")},
		{sides("length", f, f, "wec")}, {{Key: name("length")}}, {{Key: name("length"), Desc: api.Desc{HasValue: true, Value: number(3)}}},
		{field("length", number(9), "w"), {Key: name("5")}, {Key: name("5")}},
	} {
		for _, d := range []api.Desc{{}, only(number(0)), only(number(5)), dataDesc(number(maxLength), ""), {HasGet: true, HasValue: true}} {
			for _, k := range []string{"length", "0", "4294967294", "a"} {
				v := w.add(api.Thing{Kind: api.Array, Extensible: true, Props: props})
				w.define(v, k, d)
			}
		}
	}
}
