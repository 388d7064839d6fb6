package reading_test

import (
	"slices"
	"strings"
	"testing"

	"lictor/api"
	"lictor/reading"
)

// of is a reader of a text that has tokens.
func of(t *testing.T, s string) reading.Reader {
	t.Helper()
	r, why, place := reading.New(s)
	if why != api.OK || place != 0 {
		t.Fatalf("%q: error %d at %d", s, why, place)
	}
	return r
}

// stands tells whether a reader is wrong, and where it is.
func stands(t *testing.T, r *reading.Reader, what string, wrong bool, place int) {
	t.Helper()
	if r.Wrong() != wrong || r.Place() != place {
		t.Errorf("%s: wrong is %t at %d, not %t at %d", what, r.Wrong(), r.Place(), wrong, place)
	}
}

func TestTextsThatAreNone(t *testing.T) {
	if _, why, place := reading.New("a = b"); why != api.ErrSyntax || place != 2 {
		t.Errorf("error %d at %d", why, place)
	}
}

// A reader goes on behind what comes, and stays at the first token that may not come.
func TestPartsInARow(t *testing.T) {
	r := of(t, `entity A::B "x" c "d" :: ; end`)
	if r.Took("action") || r.Took("::") || !r.Took("entity") || r.Word() != "A" || r.TypeName() != "A::B" || r.Text() != "x" || r.Label() != "c" || r.Label() != "d" || r.Word() != "" || r.Took(":") || !r.Took("::") {
		t.Error("something else is read")
	}
	stands(t, &r, "at the stop", false, 25)
	r.Must(";")
	stands(t, &r, "behind the stop", false, 27)
	r.Close()
	stands(t, &r, "not at the end", true, 27)
	if r.Took("end") || r.Name() != "" || r.Text() != "" || r.Next() != (api.Token{}) {
		t.Error("something is read behind what may not come")
	}
	stands(t, &r, "still", true, 27)
	all := of(t, " a ")
	all.Name()
	all.Close()
	stands(t, &all, "at the end", false, 3)
	all.Must("a")
	stands(t, &all, "behind the end", true, 3)
}

// What is spelt like a sign or a word within a string is none.
func TestStringsAreNoWords(t *testing.T) {
	r := of(t, `"in" ","`)
	if r.Took("in") || r.Word() != "" || r.Text() != "in" || r.Took(",") || r.Text() != "," {
		t.Error("a string is taken for another token")
	}
	stands(t, &r, "at the end", false, 8)
}

func TestUids(t *testing.T) {
	for s, want := range map[string]api.Uid{`A::"x"`: {Type: "A", Id: "x"}, `A :: B::C::""`: {Type: "A::B::C"}} {
		r := of(t, s)
		if u := r.Uid(); u != want || r.Wrong() || r.Place() != len(s) {
			t.Errorf("%q: %v", s, u)
		}
	}
	for s, place := range map[string]int{`A`: 1, `A::`: 3, `A::B`: 4, `A::B "x"`: 5, `A::in::"x"`: 3, `A:"x"`: 1, `"x"`: 0} {
		r := of(t, s)
		r.Uid()
		stands(t, &r, s, true, place)
	}
}

func TestLists(t *testing.T) {
	for _, x := range []struct {
		s     string
		names []string
		place int
	}{
		{`]`, nil, -1}, {`a]`, []string{"a"}, -1}, {`a, b ,c]`, []string{"a", "b", "c"}, -1}, {`a,]`, nil, 2}, {`,a]`, nil, 0}, {`a b]`, nil, 2}, {`a}`, nil, 1}, {`a`, nil, 1}, {``, nil, 0},
	} {
		for _, empty := range []bool{true, false} {
			var l []string
			r := of(t, x.s)
			part := func() { l = append(l, r.Name()) }
			if empty {
				r.Any("]", part)
			} else {
				r.Some("]", part)
			}
			switch {
			case x.s == "]" && !empty:
				stands(t, &r, "none of some", true, 0)
			case x.place >= 0:
				stands(t, &r, x.s, true, x.place)
			case r.Wrong() || r.Place() != len(x.s) || !slices.Equal(l, x.names):
				t.Errorf("%q: %q", x.s, l)
			}
		}
	}
}

// An expression that is not right is told, and gone by; a token that may not come is stayed at.
func TestExpressions(t *testing.T) {
	deep := strings.Repeat("!", 16) + "1"
	for _, x := range []struct {
		s     string
		op    api.Op
		why   api.Errno
		wrong bool
		place int
	}{
		{`1 + 2 }`, api.OpAdd, api.OK, false, 6}, {`true`, api.OpBool, api.OK, false, 4}, {`1 2`, api.OpLong, api.OK, false, 2},
		{`{a: 1, a: 2} }`, 0, api.ErrSyntax, false, 13}, {`{a: 1, a: 2}`, 0, api.ErrSyntax, false, 12}, {deep, 0, api.ErrDepth, false, 17}, {deep + ` + 1 ;`, 0, api.ErrDepth, false, 22}, {deep + ` 1`, 0, api.ErrDepth, false, 18}, {`[` + strings.Repeat("[1,1,1,1,1,1,1,1,1,1,1],", 11) + `1] x`, 0, api.ErrMany, false, 268},
		{``, 0, api.OK, true, 0}, {`}`, 0, api.OK, true, 0}, {`1 + }`, 0, api.OK, true, 4}, {`a == 1`, 0, api.OK, true, 2}, {deep + ` + `, 0, api.OK, true, 20}, {deep + `.a.`, 0, api.OK, true, 20}, {`{a: 1, a: 2, b}`, 0, api.OK, true, 14}, {`(`, 0, api.OK, true, 1},
	} {
		r := of(t, x.s)
		e, why := r.Expr()
		if e.Op != x.op || why != x.why {
			t.Errorf("%q: op %d, error %d", x.s, e.Op, why)
		}
		stands(t, &r, x.s, x.wrong, x.place)
		if x.wrong {
			if e, why := r.Expr(); e.Op != api.OpNone || why != api.OK || r.Place() != x.place {
				t.Errorf("%q, once more: op %d, error %d", x.s, e.Op, why)
			}
		}
	}
}

// A record is read as expr.Read reads it: what is not right is not gone by.
func TestRecords(t *testing.T) {
	deep := strings.Repeat("[", 16) + strings.Repeat("]", 16)
	for _, x := range []struct {
		s     string
		op    api.Op
		why   api.Errno
		told  int
		wrong bool
		place int
	}{
		{`{} ;`, api.OpRecord, api.OK, 0, false, 3}, {`{a: 1}`, api.OpRecord, api.OK, 0, false, 6}, {` {a: 1}.a }`, api.OpAttr, api.OK, 0, false, 10},
		{` {a: 1, a: 2} }`, 0, api.ErrSyntax, 1, false, 1}, {`{a: ` + deep + `} x`, 0, api.ErrDepth, 0, false, 0}, {` {a 1}`, 0, api.ErrSyntax, 4, false, 1}, {`{`, 0, api.ErrSyntax, 1, false, 0},
		{``, 0, api.ErrSyntax, 0, true, 0}, {` 1`, 0, api.ErrSyntax, 1, true, 1}, {`({})`, 0, api.ErrSyntax, 0, true, 0}, {`"{" }`, 0, api.ErrSyntax, 0, true, 0},
	} {
		r := of(t, x.s)
		e, why, place := r.Record()
		if e.Op != x.op || why != x.why || place != x.told {
			t.Errorf("%q: op %d, error %d at %d", x.s, e.Op, why, place)
		}
		stands(t, &r, x.s, x.wrong, x.place)
	}
	r := of(t, `x {}`)
	r.Must("y")
	if e, why, place := r.Record(); e.Op != api.OpNone || why != api.ErrSyntax || place != 0 {
		t.Errorf("behind what may not come: op %d, error %d at %d", e.Op, why, place)
	}
	stands(t, &r, "behind what may not come", true, 0)
}
