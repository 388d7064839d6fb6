package service_test

import (
	"testing"

	"lictor/api"
	"lictor/service"
	"lictor/window"
)

// This file has the power go wherever it may, and holds what a recovery has against what was answered.

// chosen are the writes of so many that are kept.
func chosen(writes int, kept func(i int) bool) []bool {
	keep := make([]bool, writes)
	for i := range keep {
		keep[i] = kept(i)
	}
	return keep
}

// keeps yields choices of what a crash may keep of so many writes: all of them, if they are few; else none, all, each alone, all but each.
func keeps(writes int) func(yield func([]bool) bool) {
	return func(yield func([]bool) bool) {
		choices := 1 << min(writes, 5)
		if writes > 5 {
			choices = 2 * (writes + 1)
		}
		for n := range choices {
			kept := func(i int) bool { return n>>i&1 == 1 }
			if writes > 5 {
				kept = func(i int) bool { return (i == n/2) != (n%2 == 1) }
			}
			if !yield(chosen(writes, kept)) {
				return
			}
		}
	}
}

// crashes yields services that crashes may leave of one; the last of them is it itself, whose recovery keeps nothing.
func crashes(t *testing.T, s api.Server) func(yield func(api.Server) bool) {
	return func(yield func(api.Server) bool) {
		for keep := range keeps(len(s.Store.Disk.Pending)) {
			c, why := service.Crash(s, keep)
			if why != api.OK || c.Up || service.Check(c) != api.OK {
				t.Fatalf("Crash: error %d", why)
			}
			if !yield(c) {
				return
			}
		}
		yield(s)
	}
}

// recovered is a service behind a recovery, which answers the last version, and leaves nothing open; once more it is the same.
func recovered(t *testing.T, s api.Server) api.Server {
	t.Helper()
	next, r := asked(t, s, recovery())
	if !same(r, api.Reply{N: last(next)}) || !next.Up || len(next.Open) != 0 || next.Last != s.Last || window.Check(next.Store.Versions) != api.OK {
		t.Fatalf("recovery: %v", r)
	}
	if again, r := asked(t, next, recovery()); !same(r, api.Reply{N: last(next)}) || !like(again, next) {
		t.Fatalf("recovered twice: %v", r)
	}
	return next
}

// goesOn asks that a service is well: commits and checkpoints go on, and last.
func goesOn(t *testing.T, s api.Server) {
	t.Helper()
	s, _ = service.Fuse(s, -1)
	s = committed(t, s, list(policyIs("on", open)))
	s = committed(t, done(t, s, checkpoint()), list(forget("on")))
	c, _ := service.Crash(s, nil)
	if next := recovered(t, c); !likeVersions(next.Store.Versions, s.Store.Versions) {
		t.Fatalf("%v, not %v", next.Store.Versions, s.Store.Versions)
	}
}

// behind is how many writes and syncs there may be in what is done below, and some more.
const behind = 24

// Promise 20.4, P7, and example 10 of the whole: the power goes in a commit.
func TestPowerGoesInACommit(t *testing.T) {
	kept, lost := 0, 0
	s := started(t, 128)
	for i, l := range [][]api.Change{nil, house(), list(policyIs("p", open), policyIs("q", great)), list(forget("p")), nil, list(drop("A", "b")), nil} {
		after := committed(t, s, l)
		for fuse := range behind {
			x, tx := opened(t, s, l)
			x, _ = service.Fuse(done(t, x, begin()), fuse)
			x, r := asked(t, x, commit(tx))
			if x.Up == (r.Why == api.ErrPower) || r.Why != api.OK && !same(r, why(api.ErrPower)) {
				t.Fatalf("fuse %d: %v", fuse, r)
			}
			for c := range crashes(t, x) {
				o := recovered(t, c)
				switch {
				case likeVersions(o.Store.Versions, after.Store.Versions):
					kept++
				case r.Why == api.OK || !likeVersions(o.Store.Versions, s.Store.Versions):
					t.Fatalf("commit %d, fuse %d, %v: recovered %v", i, fuse, r, o.Store.Versions)
				default:
					lost++
				}
				goesOn(t, o)
			}
		}
		if s = after; i == 3 {
			s = done(t, s, checkpoint())
		}
	}
	if kept == 0 || lost == 0 {
		t.Errorf("%d are kept, %d lost", kept, lost)
	}
}

// Promise 20.4, and P7: the power goes in a checkpoint; nothing that was committed is lost.
func TestPowerGoesInACheckpoint(t *testing.T) {
	kept, lost := 0, 0
	s := started(t, 128)
	for i := range 5 {
		s = committed(t, s, list(policyIs(string(rune('a'+i%3)), open)))
		if i%2 == 0 {
			s = committed(t, s, nil, list(forget(string(rune('a'+i%3)))))
		}
		for fuse := range behind {
			x, _ := service.Fuse(done(t, s, begin()), fuse)
			x, r := asked(t, x, checkpoint())
			if x.Up == (r.Why == api.ErrPower) || r.Why != api.OK && !same(r, why(api.ErrPower)) {
				t.Fatalf("fuse %d: %v", fuse, r)
			}
			for c := range crashes(t, x) {
				o := recovered(t, c)
				if !likeVersions(o.Store.Versions, s.Store.Versions) || r.Why == api.OK && o.Store.Epoch != s.Store.Epoch+1 {
					t.Fatalf("checkpoint %d, fuse %d, %v: recovered %v", i, fuse, r, o.Store.Versions)
				}
				if o.Store.Epoch > s.Store.Epoch {
					kept++
				} else {
					lost++
				}
				goesOn(t, o)
			}
		}
		s = done(t, s, checkpoint())
	}
	if kept == 0 || lost == 0 {
		t.Errorf("%d are kept, %d lost", kept, lost)
	}
}

// Promise 20.4, and P7: a recovery takes no write, so the power may go at once in it, and behind it, and again and again.
func TestPowerGoesAgainAndAgain(t *testing.T) {
	s := committed(t, started(t, 96), house())
	for turn := range 30 {
		x, tx := opened(t, s, list(policyIs(string(rune('a'+turn%3)), open)))
		x, _ = service.Fuse(x, turn%7)
		x, r := asked(t, x, commit(tx))
		for again := range 3 {
			if !x.Up {
				x, _ = service.Crash(x, chosen(len(x.Store.Disk.Pending), func(i int) bool { return (i+turn+again)%3 == 0 }))
			}
			x, _ = service.Fuse(x, 0)
			x = recovered(t, x)
			x, _ = asked(t, x, checkpoint())
			if x.Up {
				t.Fatal("the power did not go")
			}
		}
		x, _ = service.Crash(x, nil)
		x = recovered(t, x)
		n := last(x)
		if n != last(s)+1 && (n != last(s) || r.Why == api.OK) || n == last(s) && !likeVersions(x.Store.Versions, s.Store.Versions) {
			t.Fatalf("turn %d, %v: version %d behind %d", turn, r, n, last(s))
		}
		s = x
		if turn%5 == 4 {
			s = done(t, s, checkpoint())
		}
	}
	if n := last(s); n < 10 {
		t.Errorf("just %d commits", n)
	}
}

// P8: what a version decides hangs neither on later commits, nor on checkpoints, nor on crashes.
func TestKeptVersions(t *testing.T) {
	s := committed(t, started(t, 150), house(), list(policyIs("great", great)), list(entityIs(`A::"b" {n: 9};`)))
	want := api.Reply{N: 2, Decision: api.Decision{Ids: []string{"great"}}}
	for i, do := range []func(s api.Server) api.Server{
		func(s api.Server) api.Server { return s },
		func(s api.Server) api.Server { return committed(t, s, list(forget("great"), forget("open"))) },
		func(s api.Server) api.Server { return done(t, s, checkpoint()) },
		func(s api.Server) api.Server { return recovered(t, s) },
		func(s api.Server) api.Server { s, _ = service.Crash(s, nil); return recovered(t, s) },
		func(s api.Server) api.Server { return committed(t, s, list(drop("A", "b"))) },
		func(s api.Server) api.Server {
			s, _ = service.Fuse(s, 1)
			s, _ = asked(t, s, checkpoint())
			return recovered(t, s)
		},
	} {
		s = do(s)
		unchanged(t, string(rune('0'+i)), s, at(2, query("b", "a", here)), want)
	}
	unchanged(t, "expired", committed(t, s, nil), at(2, query("b", "a", here)), why(api.ErrExpired))
}
