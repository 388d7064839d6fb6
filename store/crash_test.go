package store_test

import (
	"testing"

	"lictor/api"
	"lictor/sector"
	"lictor/store"
	"lictor/window"
)

// This file has the power go wherever it may, and holds what is opened then against what was answered.

// keeps yields choices of what a crash may keep of so many writes: all of them, if they are few; else none, all, each alone, all but each.
func keeps(writes int) func(yield func([]bool) bool) {
	return func(yield func([]bool) bool) {
		if writes <= 5 {
			for mask := range 1 << writes {
				if !yield(chosen(writes, func(i int) bool { return mask>>i&1 == 1 })) {
					return
				}
			}
			return
		}
		for one := range writes + 1 {
			for _, but := range []bool{false, true} {
				if !yield(chosen(writes, func(i int) bool { return (i == one) != but })) {
					return
				}
			}
		}
	}
}

// chosen are the writes of so many that are kept.
func chosen(writes int, kept func(i int) bool) []bool {
	keep := make([]bool, writes)
	for i := range keep {
		keep[i] = kept(i)
	}
	return keep
}

// crashes yields what crashes may leave of a disk.
func crashes(t *testing.T, d api.Disk) func(yield func(api.Disk) bool) {
	return func(yield func(api.Disk) bool) {
		for keep := range keeps(len(d.Pending)) {
			c, why := sector.Crash(d, keep)
			if why != api.OK {
				t.Fatalf("Crash: error %d", why)
			}
			if !yield(c) {
				return
			}
		}
	}
}

// tally counts how often what was being made was lost, and was kept.
type tally struct{ lost, kept int }

// both asks that either is there.
func (n tally) both(t *testing.T) {
	t.Helper()
	if n.lost == 0 || n.kept == 0 {
		t.Errorf("%d are lost, %d kept", n.lost, n.kept)
	}
}

// goesOn asks that a store is well: commits and checkpoints go on, and are opened again, and opened twice it is the same.
func goesOn(t *testing.T, s api.Store) {
	t.Helper()
	if again := opened(t, s.Disk); !like(again, s) {
		t.Fatal("opened again it is another one")
	}
	s = committed(t, s, list(policyIs("on", open)))
	if !like(opened(t, s.Disk), s) {
		t.Fatal("opened behind a commit it is another one")
	}
	s = committed(t, checked(t, s), list(forget("on")))
	if !like(opened(t, s.Disk), s) {
		t.Fatal("opened behind a checkpoint it is another one")
	}
}

// behind is how many writes and syncs there may be in what is done below, and some more.
const behind = 24

// Promise 18.5, P7, and example 10 of the whole: the power goes in a commit.
func TestPowerGoesInACommit(t *testing.T) {
	var n tally
	s := formatted(t, 64)
	for i, l := range [][]api.Change{nil, list(policyIs("p", open), policyIs("q", open)), list(schemaIs("entity A {};"), entityIs(`A::"a" {};`), forget("q")), list(drop("A", "a")), nil, list(forget("p")), nil} {
		after := committed(t, s, l)
		for fuse := range behind {
			s.Disk.Fuse = fuse
			got, _, why, _ := store.Commit(s, l)
			if (why == api.OK) == got.Disk.Off || why != api.OK && why != api.ErrPower {
				t.Fatalf("fuse %d: error %d", fuse, why)
			}
			for d := range crashes(t, got.Disk) {
				o := opened(t, d)
				switch {
				case likeVersions(o.Versions, after.Versions) && o.At == after.At && o.Count == after.Count:
					n.kept++
				case why == api.OK || !likeVersions(o.Versions, s.Versions) || o.At != s.At || o.Count != s.Count:
					t.Fatalf("commit %d, fuse %d, error %d: opened at %d, %d frames, %v", i, fuse, why, o.At, o.Count, o.Versions)
				default:
					n.lost++
				}
				goesOn(t, o)
			}
		}
		s = after
		if i == 3 {
			s = checked(t, s)
		}
	}
	n.both(t)
}

// Promise 18.5, and P7: the power goes in a checkpoint; nothing that was committed is lost.
func TestPowerGoesInACheckpoint(t *testing.T) {
	var n tally
	s := formatted(t, 64)
	for i := range 6 {
		s = committed(t, s, list(policyIs(string(rune('a'+i%3)), open)))
		if i%2 == 0 {
			s = committed(t, s, nil, list(forget(string(rune('a'+i%3)))))
		}
		after := checked(t, s)
		for fuse := range behind {
			s.Disk.Fuse = fuse
			got, why := store.Checkpoint(s)
			if (why == api.OK) == got.Disk.Off || why != api.OK && why != api.ErrPower {
				t.Fatalf("fuse %d: error %d", fuse, why)
			}
			for d := range crashes(t, got.Disk) {
				o := opened(t, d)
				switch {
				case !likeVersions(o.Versions, s.Versions):
					t.Fatalf("checkpoint %d, fuse %d, error %d: opened %v, not %v", i, fuse, why, o.Versions, s.Versions)
				case o.Epoch == after.Epoch && o.At == 0 && o.Count == 0:
					n.kept++
				case why == api.OK || o.Epoch != s.Epoch || o.At != s.At || o.Count != s.Count:
					t.Fatalf("checkpoint %d, fuse %d, error %d: opened epoch %d, at %d, %d frames", i, fuse, why, o.Epoch, o.At, o.Count)
				default:
					n.lost++
				}
				goesOn(t, o)
			}
		}
		s = after
	}
	n.both(t)
}

// Promise 18.5: the power goes while a disk is formatted: it is as it was, or begins anew.
func TestPowerGoesInAFormat(t *testing.T) {
	var n tally
	used := committed(t, formatted(t, few), list(policyIs("p", open)), list(forget("p")))
	for i, d := range []api.Disk{blank(t, few), used.Disk} {
		for fuse := range 6 {
			d.Fuse = fuse
			got, why := store.Format(d)
			for c := range crashes(t, got.Disk) {
				o, no := store.Open(c)
				switch {
				case no == api.OK && likeVersions(o.Versions, window.New()) && o.Epoch == uint64(i)+1 && o.At == 0 && o.Count == 0:
					n.kept++
				case why == api.OK || i == 0 && no != api.ErrUnknown || i == 1 && (no != api.OK || !likeVersions(o.Versions, used.Versions) || o.At != used.At || o.Count != 2):
					t.Fatalf("disk %d, fuse %d, error %d: opened %v, error %d", i, fuse, why, o.Versions, no)
				default:
					n.lost++
				}
				if no != api.OK {
					o, _ = store.Format(c)
				}
				goesOn(t, o)
			}
		}
	}
	n.both(t)
}

// Promise 18.5: the power goes again and again in the same commit, each time a bit later, and each time something else is kept.
func TestPowerGoesAgainAndAgain(t *testing.T) {
	var n tally
	for first := range 3 {
		s := committed(t, formatted(t, few), nil)
		l := list(policyIs("p", open), policyIs("q", open), policyIs("r", open))
		want := committed(t, s, l)
		for turn := range 8 {
			s.Disk.Fuse = turn
			got, _, why, _ := store.Commit(s, l)
			keep := chosen(len(got.Disk.Pending), func(i int) bool { return (i+turn)%3 == first })
			d, _ := sector.Crash(got.Disk, keep)
			o := opened(t, d)
			if likeVersions(o.Versions, want.Versions) {
				n.kept++
				goesOn(t, o)
				break
			}
			if why == api.OK || !likeVersions(o.Versions, s.Versions) {
				t.Fatalf("fuse %d, error %d: opened %v", turn, why, o.Versions)
			}
			n.lost++
			// With a shorter one nothing of those that were lost is read, either.
			if short := committed(t, o, list(policyIs("z", open))); !like(opened(t, short.Disk), short) {
				t.Fatalf("fuse %d: a shorter one behind it is opened as another one", turn)
			}
			s = o
		}
	}
	n.both(t)
}
