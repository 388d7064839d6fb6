package policy_test

import (
	"math/rand"
	"strings"
	"testing"

	"lictor/api"
	"lictor/policy"
	"lictor/token"
)

// Promise 9.2 of Parse, and words: texts of all of the grammar, and what they are.
func TestParse(t *testing.T) {
	p, c := variable("principal"), variable("context")
	forbidden := open()
	forbidden.Permit = false
	for s, want := range map[string]api.Policy{
		`permit(principal,action,resource);`: open(), `forbid ( principal , action , resource ) ;`: forbidden, "// who\npermit(principal,action,resource);// all": open(),
		`permit(principal == User::"a", action == Action::"x", resource == A::Doc::"d");`:     permit(equal("User::a"), equal("Action::x"), equal("A::Doc::d")),
		`permit(principal in Group::"", action in [Action::"x"], resource in Dir::"d");`:      permit(in("Group::"), in("Action::x"), in("Dir::d")),
		`permit(principal is User, action in [B::"y",A::"x" , B::"y"], resource is A::B);`:    permit(is("User"), in("B::y", "A::x", "B::y"), is("A::B")),
		`permit(principal,action,resource) when { principal.a };`:                             open(when(attr(p, "a"))),
		`permit(principal,action,resource) unless{context.b}when{{a:1}has a};`:                open(unless(attr(c, "b")), when(api.Expr{Op: api.OpHas, S: "a", Kids: []api.Expr{{Op: api.OpRecord, Names: []string{"a"}, Kids: []api.Expr{long(1)}}}})),
		`permit(principal,action,resource) when { if true then {} else principal } when {3};`: open(when(node(api.OpIf, boolean(1), node(api.OpRecord), p)), when(long(3))),
		`permit(principal,action,resource) unless { true && false || true };`:                 open(unless(node(api.OpOr, node(api.OpAnd, boolean(1), boolean(0)), boolean(1)))),
		`permit(principal == contains::"a", action, resource is _);`:                          permit(equal("contains::a"), api.Scope{}, is("_")),
		`permit(principal == A :: B :: "\n\*", action, resource);`:                            permit(equal("A::B::\n\\*"), api.Scope{}, api.Scope{}),
	} {
		got, why, place := policy.Parse(s)
		if !policiesAlike(got, want) || why != api.OK || place != 0 {
			t.Errorf("%q is read %v, error %d at %d; not %v", s, got, why, place, want)
		}
	}
}

// Promise 9.2 of Parse: what is no policy, and the place of the first token that is not what may come, or of the text's end.
func TestParseOfNone(t *testing.T) {
	long65 := strings.Repeat("n", 65)
	open := `permit(principal,action,resource)`
	for _, x := range []struct {
		s     string
		place int
	}{
		{``, 0}, {"  ", 2}, {`// permit`, 9}, {`;`, 0}, {`allow(principal,action,resource);`, 0}, {`Permit(principal,action,resource);`, 0}, {`"permit"(principal,action,resource);`, 0}, {`permit`, 6}, {`permit;`, 6}, {`permit forbid(`, 7}, {`permit(`, 7}, {`permit()`, 7}, {`permit[`, 6}, {`when`, 0},
		{`permit(action,principal,resource);`, 7}, {`permit("principal",action,resource);`, 7}, {`permit(principal)`, 16}, {`permit(principal,resource,action);`, 17}, {`permit(principal,action);`, 23}, {`permit(principal,action,resource;`, 32}, {`permit(principal,action,resource,);`, 32}, {`permit(principal,action,resource,context);`, 32}, {`permit(principal action,resource);`, 17}, {`permit(principal;action,resource);`, 16}, {`permit(,action,resource);`, 7},
		{open, 33}, {open + `)`, 33}, {open + `;;`, 34}, {open + `; permit`, 35}, {open + `; // x`, -1}, {open + ` when`, 38}, {open + ` when {`, 40}, {open + ` when {}`, 40}, {open + ` when {1}`, 42}, {open + ` when {1} ;;`, 44}, {open + ` when {1};1`, 43}, {open + ` when {1;`, 41}, {open + ` when {1)`, 41}, {open + ` when {1 2};`, 42}, {open + ` when {1}}`, 42}, {open + ` when 1;`, 39}, {open + ` when (1);`, 39}, {open + ` when [1];`, 39}, {open + ` when {1}, when {2};`, 42}, {open + ` {1};`, 34}, {open + ` if {1};`, 34}, {open + ` When {1};`, 34}, {open + ` "when" {1};`, 34}, {open + ` when unless {1};`, 39}, {open + ` unless {1} when 1;`, 50}, {open + ` when {1 +};`, 43}, {open + ` when {a};`, 41}, {open + ` when {;`, 40}, {open + ` when {1 == 2 == 3};`, 47}, {open + ` when {principal == 1} unless {`, 64},
		{`permit(principal = `, 17}, {`permit(principal == `, 20}, {`permit(principal == "a"`, 20}, {`permit(principal == A)`, 21}, {`permit(principal == A::)`, 23}, {`permit(principal == A::B)`, 24}, {`permit(principal == A::B::1)`, 26}, {`permit(principal == A::"x"::"y"`, 26}, {`permit(principal == A::in::"x"`, 23}, {`permit(principal == in::"x"`, 20}, {`permit(principal == principal::"x"`, 20}, {`permit(principal == [A::"x"]`, 20}, {`permit(principal == (A::"x")`, 20}, {`permit(principal == A::"x" == A::"x"`, 27}, {`permit(principal == A::"x" in A::"x"`, 27}, {`permit(principal == A:"x"`, 21}, {`permit(principal == A."x"`, 21}, {`permit(principal == ` + long65 + `::"x"`, 20}, {`permit(principal == A::` + long65 + `::"x"`, 23}, {`permit(principal == true`, 20}, {`permit(principal == 1`, 20},
		{`permit(principal in)`, 19}, {`permit(principal in [A::"x"],`, 20}, {`permit(principal in A)`, 21}, {`permit(principal in A::"x", A::"y"`, 28}, {`permit(principal is`, 19}, {`permit(principal is "A"`, 20}, {`permit(principal is A::"x"`, 23}, {`permit(principal is A::`, 23}, {`permit(principal is A::,`, 23}, {`permit(principal is A in A::"x"`, 22}, {`permit(principal is in`, 20}, {`permit(principal is A B`, 22}, {`permit(principal is ` + long65, 20}, {`permit(principal is A::` + long65, 23}, {`permit(principal has a`, 17}, {`permit(principal.a`, 16}, {`permit(principal < A::"x"`, 17}, {`permit(principal != A::"x"`, 17}, {`permit(principal like "x"`, 17},
		{`permit(principal, action is A`, 25}, {`permit(principal, action in A::"x"`, 28}, {`permit(principal, action in []`, 29}, {`permit(principal, action in [`, 29}, {`permit(principal, action in [,`, 29}, {`permit(principal, action in [A::"x",]`, 36}, {`permit(principal, action in [A::"x" A::"y"]`, 36}, {`permit(principal, action in [A::"x")`, 35}, {`permit(principal, action in [A::"x"]]`, 36}, {`permit(principal, action in [A]`, 30}, {`permit(principal, action in ["x"]`, 29}, {`permit(principal, action == [A::"x"]`, 28}, {`permit(principal, action in {A::"x"}`, 28}, {`permit(principal, action == A`, 29}, {`permit(principal, action, resource in [A::"x"]`, 38}, {`permit(principal, action, resource is`, 37}, {`permit(principal, action, resource == A::"x", `, 44},
		{strings.Repeat("permit ", 290), 7}, {open + strings.Repeat(" when {1}", 223), 2040}, {open + " when {" + strings.Repeat("(", 2008), 2048}, {open + " when {" + strings.Repeat("!", 2007) + "}", 2047},
	} {
		p, why, place := policy.Parse(x.s)
		if x.place == -1 {
			if why != api.OK || place != 0 {
				t.Errorf("%.80q: error %d at %d", x.s, why, place)
			}
			continue
		}
		if !zero(p) || why != api.ErrSyntax || place != x.place {
			t.Errorf("%.80q: %v, error %d at %d, not at %d", x.s, p, why, place, x.place)
		}
	}
}

// Promise 9.2 of Parse: Cut's errors, and their places; they go ahead of all else.
func TestParseOfNoTokens(t *testing.T) {
	for _, x := range []struct {
		s     string
		why   api.Errno
		place int
	}{
		{`permit(principal = A::"x")`, api.ErrSyntax, 17}, {`) @`, api.ErrSyntax, 2}, {`permit(principal, 01`, api.ErrSyntax, 18}, {`x "`, api.ErrSyntax, 2}, {"permit permit \"\xff\"", api.ErrUtf, 14}, {`) "` + strings.Repeat("a", 257) + `"`, api.ErrLong, 2}, {`permit(principal,action,resource); &`, api.ErrSyntax, 35},
		{`permit(principal,action,resource);` + strings.Repeat(" ", 2015), api.ErrLong, 0}, {strings.Repeat(")", 1<<20), api.ErrLong, 0}, {strings.Repeat("@", 2049), api.ErrLong, 0},
	} {
		p, why, place := policy.Parse(x.s)
		if !zero(p) || why != x.why || place != x.place {
			t.Errorf("%.60q: %v, error %d at %d, not %d at %d", x.s, p, why, place, x.why, x.place)
		}
	}
	if p, why, place := policy.Parse(`permit(principal,action,resource);` + strings.Repeat(" ", 2014)); !policiesAlike(p, open()) || why != api.OK || place != 0 {
		t.Errorf("as long as it may be: %v, error %d at %d", p, why, place)
	}
}

// Promise 9.2 of Parse: what is read as a policy, but is not right: Check's error, at 0.
func TestParseOfWrongOnes(t *testing.T) {
	open, long65, whole := `permit(principal,action,resource)`, strings.Repeat("n", 65), strings.Repeat("é", 32)
	twice, deep := `{a: 1, "a": 2}`, strings.Repeat("!", 16)+"1"
	ones := strings.TrimSuffix(strings.Repeat("1,", 16), ",")
	great := `[[` + ones + `]` + strings.Repeat(`,[`+ones+`]`, 7) + `]`
	actions := func(n int) string {
		return `permit(principal, action in [` + strings.TrimSuffix(strings.Repeat(`A::"x",`, n), ",") + `], resource);`
	}
	for _, x := range []struct {
		s   string
		why api.Errno
	}{
		{`permit(principal == A::"` + whole + `", action, resource);`, api.OK}, {`permit(principal == A::"` + whole + `1", action, resource);`, api.ErrSyntax}, {`permit(principal in A::"` + long65 + `", action, resource);`, api.ErrSyntax}, {`permit(principal, action == A::"` + long65 + `", resource);`, api.ErrSyntax}, {`permit(principal, action in [A::"x", A::"` + long65 + `"], resource);`, api.ErrSyntax}, {`permit(principal, action, resource in A::"` + long65 + `");`, api.ErrSyntax},
		{`permit(principal is AA::` + long65[:60] + `, action, resource);`, api.OK}, {`permit(principal is AAA::` + long65[:60] + `, action, resource);`, api.ErrSyntax}, {`permit(principal == AAA::` + long65[:60] + `::"x", action, resource);`, api.ErrSyntax}, {`permit(principal, action, resource is AAA::` + long65[:60] + `);`, api.ErrSyntax},
		{actions(1), api.OK}, {actions(16), api.OK}, {actions(17), api.ErrSyntax}, {actions(250), api.ErrSyntax},
		{open + strings.Repeat(" when {1}", 13) + `;`, api.OK}, {open + strings.Repeat(" when {1}", 14) + `;`, api.ErrDepth}, {open + strings.Repeat(" unless {1}", 16) + `;`, api.ErrDepth}, {open + strings.Repeat(" when {1}", 17) + `;`, api.ErrMany}, {open + strings.Repeat(" when {1}", 200) + `;`, api.ErrMany},
		{open + ` when {` + twice + `};`, api.ErrSyntax}, {open + ` when {1["` + long65 + `"]};`, api.ErrSyntax}, {open + ` when {1 has ""};`, api.ErrSyntax}, {open + ` when {A::"` + long65 + `" == 1};`, api.ErrSyntax}, {open + ` when {[` + ones + `,1]};`, api.ErrSyntax}, {open + ` unless {1} when {1 is AAA::` + long65[:60] + `};`, api.ErrSyntax},
		{open + ` when {` + deep + `};`, api.ErrDepth}, {open + ` when {` + deep[1:] + `};`, api.ErrDepth}, {open + ` when {` + deep[2:] + `};`, api.OK}, {open + ` unless {` + deep[2:] + `};`, api.ErrDepth}, {open + ` when {` + strings.Repeat("1+", 900) + `1};`, api.ErrDepth},
		{open + ` when {` + great + `};`, api.ErrMany}, {open + ` when {[` + ones + `]} when {[[` + ones + `],[` + ones + `],[` + ones + `],[` + ones + `]]} unless {[[` + ones + `],[` + ones + `],[` + ones + `]]};`, api.ErrMany},
		{open + ` when {` + deep + `} when {` + twice + `};`, api.ErrDepth}, {open + ` when {` + twice + `} when {` + deep + `};`, api.ErrSyntax}, {open + ` when {1} unless {` + great + `} when {` + deep + `};`, api.ErrMany}, {open + ` when {` + deep + `} when {` + great + `};`, api.ErrDepth}, {open + ` when {` + deep[1:] + `} when {` + great + `};`, api.ErrMany},
		{open + ` when {` + deep + `}` + strings.Repeat(" when {1}", 16) + `;`, api.ErrMany}, {open + strings.Repeat(" when {1}", 16) + ` when {` + twice + `};`, api.ErrMany}, {`permit(principal == A::"` + long65 + `", action, resource) when {` + deep + `};`, api.ErrSyntax}, {`permit(principal == A::"` + long65 + `", action, resource)` + strings.Repeat(" when {1}", 17) + `;`, api.ErrSyntax},
	} {
		p, why, place := policy.Parse(x.s)
		if why != x.why || place != 0 || zero(p) != (why != api.OK) || why == api.OK && policy.Check(p) != api.OK {
			t.Errorf("%.120q: %v, error %d at %d, not %d", x.s, p, why, place, x.why)
		}
	}
}

// Promise 9.2 of Parse: a token that is not what may come goes ahead of what is not right, wherever it is.
func TestTokensGoAheadOfWhatIsNotRight(t *testing.T) {
	open, twice, deep := `permit(principal,action,resource)`, `{a: 1, "a": 2}`, strings.Repeat("-", 30)+"1"
	wide := `[` + strings.Repeat("1,", 20) + `1]`
	for _, e := range []string{twice, deep, wide, deep + ` + ` + twice, `(` + deep + `)`, `(principal has "")`, `if ` + deep + ` then 1 else 2`, `1[""].contains(` + twice + `)`} {
		for _, x := range []struct {
			ahead, behind string
			place         int
		}{
			{` when {`, ``, 0}, {` when {`, ` `, 1}, {` when {`, `)};`, 0}, {` when {`, ` 1};`, 1}, {` when {`, ` };;`, 3}, {` unless {`, `} x;`, 2}, {` when {`, ` + };`, 3}, {` when {`, ` || `, 4}, {` when {`, `.1};`, 1}, {` when {`, ` ; 1 2 3`, 1}, {` when {1} unless {`, `} when 1;`, 7}, {` when {`, `} when {1 2};`, 10}, {` when {` + twice + `} when {`, `} when {` + twice + ` x};`, 23}, {` when {`, ` :: 2};`, 1}, {` when {`, ` "x" };`, 1}, {` when {`, `};;`, 2},
		} {
			s := open + x.ahead + e
			want := len(s) + x.place
			if p, why, place := policy.Parse(s + x.behind); !zero(p) || why != api.ErrSyntax || place != want {
				t.Errorf("%q: %v, error %d at %d, not at %d", s+x.behind, p, why, place, want)
			}
		}
	}
}

// Promise 9.2 of Print: each part, and how it is written.
func TestPrint(t *testing.T) {
	p, c := variable("principal"), variable("context")
	e, f := node(api.OpEqual, attr(p, "a"), long(1)), attr(c, "x y")
	for _, x := range []struct {
		p    api.Policy
		want string
	}{
		{open(), `permit (principal, action, resource);`},
		{api.Policy{}, `forbid (principal, action, resource);`},
		{permit(equal("User::a"), in("Action::x", "Action::y"), is("Doc"), when(e), unless(f)), `permit (principal == User::"a", action in [Action::"x", Action::"y"], resource is Doc) when { (principal.a == 1) } unless { context["x y"] };`},
		{permit(in("A::B::\n"), equal("Action::"), in("Doc::\\*"), unless(node(api.OpRecord))), `permit (principal in A::B::"\n", action == Action::"", resource in Doc::"\*") unless { {} };`},
		{permit(is("A::B"), in("Action::x"), equal("Doc::\""), when(boolean(1)), when(boolean(0))), `permit (principal is A::B, action in [Action::"x"], resource == Doc::"\"") when { true } when { false };`},
		{permit(api.Scope{}, in("B::y", "A::x", "B::y"), api.Scope{}), `permit (principal, action in [B::"y", A::"x", B::"y"], resource);`},
	} {
		s, why := policy.Print(x.p)
		if s != x.want || why != api.OK {
			t.Errorf("%v: %q, error %d; not %q", x.p, s, why, x.want)
		}
		if got, why, place := policy.Parse(s); !policiesAlike(got, x.p) || why != api.OK || place != 0 {
			t.Errorf("%q is read %v, error %d at %d", s, got, why, place)
		}
	}
}

// readBack holds what a policy is read from its text against it; whether that is not too long.
func readBack(t *testing.T, p api.Policy) bool {
	t.Helper()
	s, why := policy.Print(p)
	if why != api.OK {
		t.Fatalf("%v: error %d", p, why)
	}
	got, why, place := policy.Parse(s)
	if len(s) > 2048 {
		if !zero(got) || why != api.ErrLong || place != 0 {
			t.Fatalf("a text of %d bytes: error %d at %d", len(s), why, place)
		}
		return false
	}
	if !policiesAlike(got, p) || why != api.OK || place != 0 {
		t.Fatalf("%v is printed %q, read %v, error %d at %d", p, s, got, why, place)
	}
	return true
}

// Promise 9.4, and P5: right policies are read from what is printed of them, where that is not too long.
func TestThereAndBack(t *testing.T) {
	r := rand.New(rand.NewSource(94))
	short, long := 0, 0
	for range 20000 {
		p := anyPolicy(r)
		if policy.Check(p) != api.OK {
			continue
		}
		if readBack(t, p) {
			short++
		} else {
			long++
		}
	}
	for range 200 {
		p := open(when(anyExpr(r, 3)))
		for range 1 + r.Intn(6) {
			p.Conds = append(p.Conds, when(api.Expr{Op: api.OpString, S: strings.Repeat("\n", 200+r.Intn(57))}))
		}
		if readBack(t, p) {
			short++
		} else {
			long++
		}
	}
	for _, p := range []api.Policy{open(when(nested(15))), open(when(wide(122))), open(conds(13, boolean(1))...), permit(equal("A::x"), api.Scope{Kind: api.ScopeIn, Uids: manyUids(16)}, is("A"), when(wide(50)))} {
		readBack(t, p)
	}
	if short < 10000 || long < 50 {
		t.Errorf("%d texts are not too long, %d are", short, long)
	}
}

// Promise 9.4: what is read of any text is right, and read again from what is printed of it.
func TestWhatIsReadIsRight(t *testing.T) {
	r := rand.New(rand.NewSource(941))
	pool, read := words(t), 0
	for range 30000 {
		s, _ := policy.Print(anyPolicy(r))
		l, why, _ := token.Cut(s)
		if why != api.OK {
			continue
		}
		for range r.Intn(3) {
			l = bent(r, l, pool)
		}
		s, _ = joined(r, l)
		p, why, _ := policy.Parse(s)
		if why != api.OK {
			continue
		}
		read++
		if why := policy.Check(p); why != api.OK {
			t.Fatalf("%q is read %v: error %d", s, p, why)
		}
		readBack(t, p)
	}
	if read < 5000 {
		t.Errorf("%d are read", read)
	}
}

// P1: texts of any bytes.
func TestAnyTexts(t *testing.T) {
	r := rand.New(rand.NewSource(901))
	pieces := []string{"permit", "forbid", "(", ")", "principal", "action", "resource", ",", ";", "when", "unless", "{", "}", "==", "in", "is", "[", "]", "A", "::", `"x"`, "1", "!", "\xff", "\x00", `"`, "//", "\n", " ", "if", ".", "a", ":", strings.Repeat("n", 65), strings.Repeat("(", 300)}
	for range 50000 {
		var b strings.Builder
		for range r.Intn(40) {
			b.WriteString(oneOf(r, pieces))
		}
		s := b.String()
		p, why, place := policy.Parse(s)
		if zero(p) && why == api.OK || !zero(p) && why != api.OK || place < 0 || place > len(s) || why == api.OK && place != 0 {
			// A policy that forbids all is the zero one.
			if again, _ := policy.Print(p); why != api.OK || again != "forbid (principal, action, resource);" {
				t.Fatalf("%q: %v, error %d at %d", s, p, why, place)
			}
		}
	}
}
