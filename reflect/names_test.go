package reflect

import (
	"math"
	"testing"

	"understudy/api"
)

func TestNames(t *testing.T) {
	names := map[int]string{
		api.MGetProto: "getPrototypeOf", api.MSetProto: "setPrototypeOf", api.MIsExt: "isExtensible", api.MPrevent: "preventExtensions",
		api.MGetOwn: "getOwnPropertyDescriptor", api.MDefine: "defineProperty", api.MHas: "has", api.MGet: "get", api.MSet: "set",
		api.MDelete: "deleteProperty", api.MKeys: "ownKeys", api.MCall: "apply", api.MConstruct: "construct",
	}
	if len(names) != 13 {
		t.Fatal("names are missing in the test")
	}
	numbers := []int{math.MinInt, math.MinInt32, -1 << 32, 1 << 32, 1<<32 + 1, math.MaxInt}
	for m := -50; m < 300; m++ {
		numbers = append(numbers, m)
	}
	for range 2 {
		for _, m := range numbers {
			if got := Trap(m); got != names[m] {
				t.Errorf("P1001: Trap(%d) = %q, want %q", m, got, names[m])
			}
			if got := Name(m); got != names[m] {
				t.Errorf("P1001: Name(%d) = %q, want %q", m, got, names[m])
			}
		}
	}
}

// TestNamesOfTraps: a proxy looks its traps up by these names.
func TestNamesOfTraps(t *testing.T) {
	for m := api.MGetProto; m <= api.MConstruct; m++ {
		w := newWorld(t)
		target := w.function(api.CWritten, 0, undefined)
		handler := w.plain(null, field(Trap(m), w.throws(str("caught")), ""))
		for other := api.MGetProto; other <= api.MConstruct; other++ {
			r := w.Do(other, w.proxy(target, handler).Num, api.Ask{Value: null})
			caught := r.Flow == api.Threw && r.Value == str("caught")
			if caught != (other == m) {
				t.Errorf("P1001: with a trap %q, method %d replies %+v", Trap(m), other, r)
			}
		}
	}
}
