package parts_test

import (
	"strconv"
	"testing"

	"configlang/api"
	"configlang/automaton"
	"configlang/lang"
	"configlang/parts"
	"configlang/trial"
	"configlang/value"
)

// TestView compares View of sound struct cases with that of layer 12.
func TestView(t *testing.T) {
	x := trial.Random(3)
	fields, classes := 0, 0
	for range 1500 {
		c := trial.StructCase(&x, 1)
		for _, label := range append(trial.Labels(), "x", "aaa", "zb") {
			v, p := parts.View(c, label)
			w, q := value.View(c, label)
			if f, found := parts.Field(c, label); found != (q < api.Optional) || found && (f.Label != label || f.Presence != q || !parts.SameVal(f.Val, w)) || !found && (f.Label != "" || f.Presence != 0) {
				t.Fatalf("Field(%s, %q): %v", trial.Show(api.Val{V: trial.Record(c)}), label, found)
			}
			if p != q || !parts.SameVal(v, w) {
				t.Fatalf("View(%s, %q): %s, %d", trial.Show(api.Val{V: trial.Record(c)}), label, trial.Show(v), p)
			}
			if p < api.Optional {
				fields++
			} else {
				classes++
			}
		}
	}
	if fields < 1000 || classes < 5000 {
		t.Errorf("%d fields, %d classes", fields, classes)
	}
	if v, p := parts.View(api.StructCase{}, "a"); p != api.Optional || !parts.SameVal(v, api.Val{}) {
		t.Errorf("a case without classes: %s, %d", trial.Show(v), p)
	}
}

// TestUnite checks that Unite leaves what is said about each label, and returns classes in order with different Vals.
func TestUnite(t *testing.T) {
	x := trial.Random(4)
	united := 0
	for range 1500 {
		var l []api.Class
		for _, set := range trial.Divide(&x, nil) {
			l = append(l, api.Class{Set: set, Val: value.Plain(trial.Number(int64(x.Below(2))))})
		}
		before := parts.CopyStruct(api.StructCase{Classes: l})
		got := parts.Unite(l)
		if !parts.Same(trial.Record(api.StructCase{Classes: l}), trial.Record(before)) {
			t.Fatal("Unite changes the classes")
		}
		for i, k := range got {
			var want api.Lang
			for _, o := range l {
				if parts.SameVal(k.Val, o.Val) {
					want = lang.Or(want, o.Set)
				}
			}
			if !automaton.Same(k.Set, want) || i > 0 && (parts.ByLeast(got[i-1], k) >= 0 || lang.Compare(got[i-1].Set, k.Set) >= 0 || parts.SameVal(got[i-1].Val, k.Val)) {
				t.Fatalf("class %d of %s", i, trial.Show(api.Val{V: trial.Record(api.StructCase{Classes: got})}))
			}
		}
		if len(got) > 2 || len(got) == 2 && parts.ByLeast(got[1], got[0]) <= 0 {
			t.Fatalf("%d classes", len(got))
		}
		if len(got) < len(l) {
			united++
		}
	}
	if united < 300 {
		t.Errorf("%d times classes are united", united)
	}
	if len(parts.Unite(nil)) > 0 {
		t.Error("no classes")
	}
}

// TestStrings checks sets of some strings, in any order and also twice.
func TestStrings(t *testing.T) {
	x := trial.Random(5)
	for range 300 {
		var l []string
		var want api.Lang
		for range x.Below(12) {
			l = append(l, trial.Pick(&x, trial.Labels()...))
			want = lang.Or(want, automaton.Word(l[len(l)-1]))
		}
		if got := parts.Strings(l); !automaton.Same(got, want) {
			t.Fatalf("Strings(%q): %q", l, lang.Words(got, 20))
		}
	}
}

// TestUniteMany checks classes of many sets, which are united half by half.
func TestUniteMany(t *testing.T) {
	for n := 1; n <= 40; n++ {
		var l []api.Class
		rest := trial.Strs(".*")
		for i := range n {
			set := automaton.Word(strconv.Itoa(i))
			rest = lang.Minus(rest, set)
			l = append(l, api.Class{Set: set, Val: value.Plain(trial.Number(int64(i % 2)))})
		}
		got := parts.Unite(append(l, api.Class{Set: rest, Val: value.Plain(trial.Number(0))}))
		var odd api.Lang
		for i := 1; i < n; i += 2 {
			odd = lang.Or(odd, automaton.Word(strconv.Itoa(i)))
		}
		if len(got) != 1+min(n/2, 1) || !automaton.Same(got[0].Set, lang.Not(odd)) || len(got) > 1 && !automaton.Same(got[1].Set, odd) {
			t.Errorf("%d classes: %d are left", n, len(got))
		}
	}
}
