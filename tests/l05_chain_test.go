package tests

import (
	"fmt"
	"math"
	"slices"
	"testing"

	"loop.example/g00216/impl"
)

const topAt = 1000000
const topTxn = 999
const mostVersions = 12

func wrote(txn, value int64) impl.Version { return impl.Version{Txn: txn, Value: value} }
func wroteGone(txn int64) impl.Version    { return impl.Version{Txn: txn, Gone: true} }
func done(txn, at, value int64) impl.Version {
	return impl.Version{Txn: txn, At: at, Value: value}
}
func doneGone(txn, at int64) impl.Version { return impl.Version{Txn: txn, At: at, Gone: true} }

func chainOf(versions ...impl.Version) []impl.Version { return versions }

// fallingChain has count versions that were committed at top, top-step and so on, with values of their own; every third is Gone, from the one of place gone on.
func fallingChain(count int, top, step int64, gone int) []impl.Version {
	var out []impl.Version
	for i := range count {
		at := top - int64(i)*step
		if i%3 == gone {
			out = append(out, doneGone(1+at%topTxn, at))
		} else {
			out = append(out, done(1+at%topTxn, at, 100+int64(i)))
		}
	}
	return out
}

// smallChains: each choice of what 3, 7 or nobody wrote last, and of what was committed at 2, 4 and 6.
func smallChains() [][]impl.Version {
	firsts := [][]impl.Version{nil, {wrote(3, 0)}, {wroteGone(3)}, {wrote(7, 77)}, {wroteGone(7)}}
	var out [][]impl.Version
	for _, first := range firsts {
		chains := [][]impl.Version{first}
		for _, at := range []int64{6, 4, 2} {
			for _, chain := range slices.Clone(chains) {
				txn := 3 + at%4*2 // by 7 at 6 and at 2, by 3 at 4
				chains = append(chains,
					append(slices.Clone(chain), done(txn, at, 10*at)),
					append(slices.Clone(chain), doneGone(txn, at)))
			}
		}
		out = append(out, chains...)
	}
	return out
}

// longChains: as many versions as there may be, and fewer, at both ends of At.
func longChains() [][]impl.Version {
	var out [][]impl.Version
	for count := range mostVersions + 1 {
		for gone := range 3 {
			out = append(out,
				fallingChain(count, topAt, 1, gone),
				fallingChain(count, int64(count), 1, gone),
				fallingChain(count, 900, 50, gone))
			if count > 0 {
				rest := fallingChain(count-1, 900, 50, gone)
				out = append(out,
					append(chainOf(wrote(topTxn, 9999)), rest...),
					append(chainOf(wroteGone(1)), rest...),
					append(chainOf(wrote(1, 0)), fallingChain(count-1, topAt, 70000, gone)...))
			}
		}
	}
	return out
}

func someChains() [][]impl.Version { return append(smallChains(), longChains()...) }

// atsNear: the ends of what a view or a floor may have, and all that is at an At of the chain or next to it.
func atsNear(chain []impl.Version) []int64 {
	ats := []int64{0, 1, topAt - 1, topAt}
	for _, v := range chain {
		for _, at := range []int64{v.At - 1, v.At, v.At + 1} {
			if at >= 0 && at <= topAt {
				ats = append(ats, at)
			}
		}
	}
	slices.Sort(ats)
	return slices.Compact(ats)
}

func viewsNear(chain []impl.Version) []impl.View {
	owns := []int64{0, 1, 2, 3, 7, topTxn}
	var out []impl.View
	for _, at := range atsNear(chain) {
		for _, own := range owns {
			out = append(out, impl.View{At: at, Own: own})
		}
	}
	return out
}

func sameChainResult(a, b impl.ChainResult) bool {
	return a.Code == b.Code && slices.Equal(a.Chain, b.Chain)
}

func chainFaultByHand(chain []impl.Version) int64 {
	if len(chain) > mostVersions {
		return impl.ErrMany
	}
	ahead := int64(topAt + 1)
	for i, v := range chain {
		switch {
		case v.Txn <= 0 || v.Txn >= 1000, v.At < 0 || v.At > topAt, v.Value < 0 || v.Value >= 10000:
			return impl.ErrRange
		case v.Gone && v.Value > 0, v.At == 0 && i > 0, v.At >= ahead:
			return impl.ErrForm
		}
		if v.At > 0 {
			ahead = v.At
		}
	}
	return impl.OK
}

// seenByHand goes from the oldest version on: each one that may be seen takes the place of what was seen so far.
func seenByHand(chain []impl.Version, view impl.View) impl.IntResult {
	seen := impl.IntResult{Code: impl.ErrNone}
	for i := len(chain) - 1; i >= 0; i-- {
		v := chain[i]
		own := v.At == 0 && v.Txn == view.Own
		if !own && (v.At == 0 || v.At > view.At) {
			continue
		}
		seen = impl.IntResult{Value: v.Value}
		if v.Gone {
			seen = impl.IntResult{Code: impl.ErrNone}
		}
	}
	return seen
}

func mayWriteByHand(chain []impl.Version, view impl.View) int64 {
	if view.Own == 0 {
		return impl.ErrRange
	}
	if len(chain) == 0 {
		return impl.OK
	}
	if first := chain[0]; first.At == 0 && first.Txn != view.Own || first.At > view.At {
		return impl.ErrConflict
	}
	return impl.OK
}

// pushByHand is told a sound chain, a sound view and what may be written.
func pushByHand(chain []impl.Version, view impl.View, gone bool, value int64) impl.ChainResult {
	if code := mayWriteByHand(chain, view); code != impl.OK {
		return impl.ChainResult{Code: code}
	}
	made := impl.Version{Txn: view.Own, Gone: gone, Value: value}
	if len(chain) > 0 && chain[0].At == 0 {
		out := slices.Clone(chain)
		out[0] = made
		return impl.ChainResult{Chain: out}
	}
	if len(chain) == mostVersions {
		return impl.ChainResult{Code: impl.ErrMany}
	}
	return impl.ChainResult{Chain: slices.Insert(slices.Clone(chain), 0, made)}
}

func isWriterByHand(chain []impl.Version, txn int64) bool {
	return len(chain) > 0 && chain[0].Txn == txn && chain[0].At == 0
}

func commitByHand(chain []impl.Version, txn, at int64) impl.ChainResult {
	if !isWriterByHand(chain, txn) {
		return impl.ChainResult{Code: impl.ErrNone}
	}
	if len(chain) > 1 && chain[1].At >= at {
		return impl.ChainResult{Code: impl.ErrForm}
	}
	out := slices.Clone(chain)
	out[0].At = at
	return impl.ChainResult{Chain: out}
}

func rollByHand(chain []impl.Version, txn int64) impl.ChainResult {
	if !isWriterByHand(chain, txn) {
		return impl.ChainResult{Code: impl.ErrNone}
	}
	return impl.ChainResult{Chain: slices.Delete(slices.Clone(chain), 0, 1)}
}

func purgeByHand(chain []impl.Version, floor int64) []impl.Version {
	reached := func(v impl.Version) bool { return v.At >= 1 && v.At <= floor }
	var out []impl.Version
	for i, v := range chain {
		if !slices.ContainsFunc(chain[:i], reached) {
			out = append(out, v)
		}
	}
	if last := len(out) - 1; last >= 0 && out[last].Gone && reached(out[last]) {
		out = out[:last]
	}
	return out
}

func TestSoundChains(t *testing.T) {
	for n, chain := range someChains() {
		if got, by := impl.ChainFault(chain), chainFaultByHand(chain); got != impl.OK || by != impl.OK {
			t.Errorf("chain %d: ChainFault(%+v) = %d, by hand %d", n, chain, got, by)
		}
	}
	if impl.MaxChain != mostVersions {
		t.Errorf("MaxChain is %d", impl.MaxChain)
	}
}

func TestSeenAsTold(t *testing.T) {
	two := chainOf(done(5, 4, 5), done(3, 2, 3))
	open := chainOf(wrote(7, 70), done(5, 4, 50), doneGone(3, 2), done(2, 1, 20))
	for _, c := range []struct {
		chain   []impl.Version
		at, own int64
		want    impl.IntResult
	}{
		{two, 3, 0, impl.IntResult{Value: 3}}, {two, 2, 5, impl.IntResult{Value: 3}}, {two, 4, 0, impl.IntResult{Value: 5}}, {two, 1, 0, impl.IntResult{Code: impl.ErrNone}},
		// Who committed a version above his view does not see it.
		{two, 1, 3, impl.IntResult{Code: impl.ErrNone}}, {two, 3, 5, impl.IntResult{Value: 3}},
		{open, 0, 7, impl.IntResult{Value: 70}}, {open, topAt, 7, impl.IntResult{Value: 70}}, {open, topAt, 0, impl.IntResult{Value: 50}}, {open, topAt, 6, impl.IntResult{Value: 50}},
		{open, 3, 0, impl.IntResult{Code: impl.ErrNone}}, {open, 2, 5, impl.IntResult{Code: impl.ErrNone}}, {open, 1, 0, impl.IntResult{Value: 20}}, {open, 0, 2, impl.IntResult{Code: impl.ErrNone}},
		{chainOf(wroteGone(7), done(5, 4, 50)), 9, 7, impl.IntResult{Code: impl.ErrNone}}, {chainOf(wroteGone(7), done(5, 4, 50)), 9, 8, impl.IntResult{Value: 50}},
		{chainOf(wrote(7, 0)), 0, 7, impl.IntResult{}}, {chainOf(wrote(7, 0)), topAt, 0, impl.IntResult{Code: impl.ErrNone}}, {nil, topAt, 7, impl.IntResult{Code: impl.ErrNone}},
	} {
		if got := impl.SeenIn(c.chain, impl.View{At: c.at, Own: c.own}); got != c.want {
			t.Errorf("SeenIn(%+v) at %d for %d = %+v, want %+v", c.chain, c.at, c.own, got, c.want)
		}
	}
}

func TestSeenInAnyChain(t *testing.T) {
	for _, chain := range someChains() {
		for _, view := range viewsNear(chain) {
			if got, want := impl.SeenIn(chain, view), seenByHand(chain, view); got != want {
				t.Fatalf("SeenIn(%+v, %+v) = %+v, want %+v", chain, view, got, want)
			}
		}
	}
}

func TestWriterOf(t *testing.T) {
	for _, chain := range someChains() {
		want := impl.IntResult{Code: impl.ErrNone}
		if len(chain) > 0 && chain[0].At == 0 {
			want = impl.IntResult{Value: chain[0].Txn}
		}
		if got := impl.WriterOf(chain); got != want {
			t.Errorf("WriterOf(%+v) = %+v, want %+v", chain, got, want)
		}
	}
}

func TestMayWrite(t *testing.T) {
	for _, c := range []struct {
		chain         []impl.Version
		at, own, code int64
	}{
		{nil, 0, 1, impl.OK}, {nil, 0, 0, impl.ErrRange}, {nil, topAt, topTxn, impl.OK},
		{chainOf(wrote(7, 1)), 0, 7, impl.OK}, {chainOf(wrote(7, 1)), 0, 6, impl.ErrConflict}, {chainOf(wroteGone(7)), topAt, 8, impl.ErrConflict}, {chainOf(wrote(7, 1)), 0, 0, impl.ErrRange},
		{chainOf(done(7, 5, 1)), 4, 7, impl.ErrConflict}, {chainOf(done(7, 5, 1)), 5, 8, impl.OK}, {chainOf(done(7, 5, 1)), 6, 8, impl.OK}, {chainOf(doneGone(7, 5)), 4, 8, impl.ErrConflict},
		{chainOf(wrote(7, 1), done(8, 5, 1)), 0, 7, impl.OK}, {chainOf(wrote(7, 1), done(8, 5, 1)), 5, 8, impl.ErrConflict}, {chainOf(done(7, 5, 1)), 4, 0, impl.ErrRange},
	} {
		if got := impl.MayWrite(c.chain, impl.View{At: c.at, Own: c.own}); got != c.code {
			t.Errorf("MayWrite(%+v) at %d by %d = %d, want %d", c.chain, c.at, c.own, got, c.code)
		}
	}
	for _, chain := range someChains() {
		for _, view := range viewsNear(chain) {
			if got, want := impl.MayWrite(chain, view), mayWriteByHand(chain, view); got != want {
				t.Fatalf("MayWrite(%+v, %+v) = %d, want %d", chain, view, got, want)
			}
		}
	}
}

func TestPushVersionAsTold(t *testing.T) {
	full, fullOpen := fallingChain(mostVersions, 900, 50, 1), append(chainOf(wrote(7, 70)), fallingChain(mostVersions-1, 900, 50, 1)...)
	for _, c := range []struct {
		chain   []impl.Version
		at, own int64
		gone    bool
		value   int64
		want    impl.ChainResult
	}{
		{nil, 0, 7, false, 5, impl.ChainResult{Chain: chainOf(wrote(7, 5))}},
		{nil, 0, 7, true, 0, impl.ChainResult{Chain: chainOf(wroteGone(7))}},
		{chainOf(wrote(7, 1)), 0, 7, false, 9999, impl.ChainResult{Chain: chainOf(wrote(7, 9999))}},
		{chainOf(wrote(7, 1), done(3, 2, 9)), 1, 7, true, 0, impl.ChainResult{Chain: chainOf(wroteGone(7), done(3, 2, 9))}},
		{chainOf(wroteGone(7), done(3, 2, 9)), 2, 7, false, 0, impl.ChainResult{Chain: chainOf(wrote(7, 0), done(3, 2, 9))}},
		{chainOf(wrote(6, 1)), 9, 7, false, 5, impl.ChainResult{Code: impl.ErrConflict}},
		{chainOf(done(3, 5, 9)), 4, 7, false, 5, impl.ChainResult{Code: impl.ErrConflict}},
		{chainOf(done(7, 5, 9)), 4, 7, false, 5, impl.ChainResult{Code: impl.ErrConflict}},
		{chainOf(done(3, 5, 9)), 5, 7, false, 5, impl.ChainResult{Chain: chainOf(wrote(7, 5), done(3, 5, 9))}},
		{chainOf(doneGone(3, 5)), 6, 7, true, 0, impl.ChainResult{Chain: chainOf(wroteGone(7), doneGone(3, 5))}},
		{full, 900, 7, false, 5, impl.ChainResult{Code: impl.ErrMany}},
		{full, 899, 7, false, 5, impl.ChainResult{Code: impl.ErrConflict}},
		{full[1:], 900, 7, false, 5, impl.ChainResult{Chain: append(chainOf(wrote(7, 5)), full[1:]...)}},
		{fullOpen, 0, 7, false, 5, impl.ChainResult{Chain: append(chainOf(wrote(7, 5)), fullOpen[1:]...)}},
		{fullOpen, 900, 8, false, 5, impl.ChainResult{Code: impl.ErrConflict}},
	} {
		if got := impl.PushVersion(c.chain, impl.View{At: c.at, Own: c.own}, c.gone, c.value); !sameChainResult(got, c.want) {
			t.Errorf("PushVersion(%+v) at %d by %d of %t %d = %+v, want %+v", c.chain, c.at, c.own, c.gone, c.value, got, c.want)
		}
	}
}

func TestPushOntoAnyChain(t *testing.T) {
	met := map[int64]int{}
	for _, chain := range someChains() {
		for _, view := range viewsNear(chain) {
			for _, value := range []int64{-1, 0, 5, 9999} {
				gone := value < 0
				want := pushByHand(chain, view, gone, max(value, 0))
				met[want.Code]++
				got := impl.PushVersion(chain, view, gone, max(value, 0))
				if !sameChainResult(got, want) {
					t.Fatalf("PushVersion(%+v, %+v, %t, %d) = %+v, want %+v", chain, view, gone, value, got, want)
				}
				if fault := impl.ChainFault(got.Chain); fault != impl.OK {
					t.Fatalf("PushVersion(%+v, %+v, %t, %d) has the fault %d", chain, view, gone, value, fault)
				}
			}
		}
	}
	for _, code := range []int64{impl.OK, impl.ErrRange, impl.ErrConflict, impl.ErrMany} {
		if met[code] < 20 {
			t.Errorf("code %d was met only %d times", code, met[code])
		}
	}
}

// eachPush tells of every push that tells no code: the chain, who writes, and the chain that comes of it; 4321 is the value of no other version.
func eachPush(tell func(chain []impl.Version, view impl.View, gone bool, pushed []impl.Version)) int {
	count := 0
	for _, chain := range someChains() {
		for _, view := range viewsNear(chain) {
			if made := impl.PushVersion(chain, view, false, 4321); made.Code == impl.OK {
				count++
				tell(chain, view, false, made.Chain)
				tell(chain, view, true, impl.PushVersion(chain, view, true, 0).Chain)
			}
		}
	}
	return count
}

func toldOf(gone bool) impl.IntResult {
	if gone {
		return impl.IntResult{Code: impl.ErrNone}
	}
	return impl.IntResult{Value: 4321}
}

// What one writes one sees; to all others it is as if it had not been written.
func TestPushedIsSeenByItsOwnAlone(t *testing.T) {
	count := eachPush(func(chain []impl.Version, view impl.View, gone bool, pushed []impl.Version) {
		if got := impl.WriterOf(pushed); got != (impl.IntResult{Value: view.Own}) {
			t.Fatalf("%+v pushed onto %+v: WriterOf = %+v", view, chain, got)
		}
		for _, other := range viewsNear(chain) {
			want := impl.SeenIn(chain, other)
			if other.Own == view.Own {
				want = toldOf(gone)
			}
			if got := impl.SeenIn(pushed, other); got != want {
				t.Fatalf("%+v pushed onto %+v: %+v sees %+v, want %+v", view, chain, other, got, want)
			}
		}
	})
	if count < 300 {
		t.Errorf("only %d pushes", count)
	}
}

// What is committed is seen by just the views that are not below it, whoever's they are.
func TestCommittedIsSeenFromItsAtOn(t *testing.T) {
	eachPush(func(chain []impl.Version, view impl.View, gone bool, pushed []impl.Version) {
		second := int64(0)
		if len(pushed) > 1 {
			second = pushed[1].At
		}
		for _, at := range []int64{second + 1, second + 2, topAt} {
			made := impl.CommitChain(pushed, view.Own, at)
			if at > topAt {
				wantCode(t, "CommitChain above all", made, impl.ErrRange)
				continue
			}
			if at <= second {
				wantCode(t, "CommitChain at the second", made, impl.ErrForm)
				continue
			}
			for _, other := range append(viewsNear(chain), impl.View{At: at - 1, Own: view.Own}, impl.View{At: at, Own: view.Own}, impl.View{At: at}, impl.View{At: at - 1, Own: 500}) {
				want := seenByHand(pushed[1:], other)
				if other.At >= at {
					want = toldOf(gone)
				}
				if got := impl.SeenIn(made.Chain, other); got != want {
					t.Fatalf("%+v committed at %d: %+v sees %+v, want %+v", pushed, at, other, got, want)
				}
			}
		}
	})
}

func TestRolledIsAsIfNotPushed(t *testing.T) {
	eachPush(func(chain []impl.Version, view impl.View, gone bool, pushed []impl.Version) {
		want := chain
		if isWriterByHand(chain, view.Own) {
			want = chain[1:]
		}
		if got := impl.RollChain(pushed, view.Own); got.Code != impl.OK || !slices.Equal(got.Chain, want) {
			t.Fatalf("RollChain of %+v = %+v, want %+v", pushed, got, want)
		}
	})
}

func TestCommitChainAsTold(t *testing.T) {
	open := chainOf(wrote(7, 70), doneGone(5, 4), done(3, 2, 30))
	for _, c := range []struct {
		chain   []impl.Version
		txn, at int64
		want    impl.ChainResult
	}{
		{open, 7, 3, impl.ChainResult{Code: impl.ErrForm}}, {open, 7, 4, impl.ChainResult{Code: impl.ErrForm}}, {open, 7, 1, impl.ChainResult{Code: impl.ErrForm}},
		{open, 7, 5, impl.ChainResult{Chain: chainOf(done(7, 5, 70), doneGone(5, 4), done(3, 2, 30))}},
		{open, 7, topAt, impl.ChainResult{Chain: chainOf(done(7, topAt, 70), doneGone(5, 4), done(3, 2, 30))}},
		{open, 6, 9, impl.ChainResult{Code: impl.ErrNone}}, {open, 5, 9, impl.ChainResult{Code: impl.ErrNone}}, {open, 6, 4, impl.ChainResult{Code: impl.ErrNone}},
		{chainOf(wrote(1, 0)), 1, 1, impl.ChainResult{Chain: chainOf(done(1, 1, 0))}}, {chainOf(wroteGone(999)), 999, topAt, impl.ChainResult{Chain: chainOf(doneGone(999, topAt))}},
		{chainOf(done(7, 5, 70)), 7, 9, impl.ChainResult{Code: impl.ErrNone}}, {chainOf(done(7, 5, 70)), 7, 5, impl.ChainResult{Code: impl.ErrNone}}, {nil, 7, 9, impl.ChainResult{Code: impl.ErrNone}},
		{chainOf(wrote(7, 1), done(3, topAt, 2)), 7, topAt, impl.ChainResult{Code: impl.ErrForm}},
	} {
		if got := impl.CommitChain(c.chain, c.txn, c.at); !sameChainResult(got, c.want) {
			t.Errorf("CommitChain(%+v, %d, %d) = %+v, want %+v", c.chain, c.txn, c.at, got, c.want)
		}
	}
}

func TestCommitAndRollOfAnyChain(t *testing.T) {
	for _, chain := range someChains() {
		for _, txn := range []int64{1, 2, 3, 7, topTxn} {
			if got, want := impl.RollChain(chain, txn), rollByHand(chain, txn); !sameChainResult(got, want) {
				t.Fatalf("RollChain(%+v, %d) = %+v, want %+v", chain, txn, got, want)
			}
			for _, at := range atsNear(chain)[1:] { // the first is 0
				got, want := impl.CommitChain(chain, txn, at), commitByHand(chain, txn, at)
				if !sameChainResult(got, want) || impl.ChainFault(got.Chain) != impl.OK {
					t.Fatalf("CommitChain(%+v, %d, %d) = %+v, want %+v", chain, txn, at, got, want)
				}
			}
		}
	}
}

func TestPurgeChainAsTold(t *testing.T) {
	four := chainOf(wrote(7, 70), done(5, 6, 50), doneGone(4, 4), done(3, 2, 30))
	for _, c := range []struct {
		chain []impl.Version
		floor int64
		want  []impl.Version
	}{
		{four, 0, four}, {four, 1, four}, {four, 2, four}, {four, 3, four},
		{four, 4, four[:2]}, {four, 5, four[:2]}, {four, 6, four[:2]}, {four, 7, four[:2]}, {four, topAt, four[:2]},
		{four[1:], 4, four[1:2]}, {four[2:], 3, four[2:]}, {four[2:], 4, nil}, {four[2:], 9, nil},
		{chainOf(doneGone(3, 5)), 4, chainOf(doneGone(3, 5))}, {chainOf(doneGone(3, 5)), 5, nil}, {chainOf(doneGone(3, 5)), 6, nil},
		{chainOf(done(3, 5, 1)), 4, chainOf(done(3, 5, 1))}, {chainOf(done(3, 5, 1)), 5, chainOf(done(3, 5, 1))}, {chainOf(done(3, 5, 1)), topAt, chainOf(done(3, 5, 1))},
		{chainOf(done(4, 9, 1), doneGone(3, 5)), 5, chainOf(done(4, 9, 1))}, {chainOf(done(4, 9, 1), doneGone(3, 5)), 4, chainOf(done(4, 9, 1), doneGone(3, 5))},
		{chainOf(doneGone(4, 9), doneGone(3, 5)), 8, chainOf(doneGone(4, 9))}, {chainOf(doneGone(4, 9), doneGone(3, 5)), 9, nil},
		// What is Gone at the floor goes, with all behind it; what is above stays, Gone or not.
		{chainOf(doneGone(4, 9), done(3, 5, 1)), 5, chainOf(doneGone(4, 9), done(3, 5, 1))}, {chainOf(doneGone(4, 9), done(3, 5, 1)), 9, nil},
		{chainOf(wrote(7, 1)), topAt, chainOf(wrote(7, 1))}, {chainOf(wroteGone(7)), 0, chainOf(wroteGone(7))}, {chainOf(wroteGone(7)), topAt, chainOf(wroteGone(7))},
		{chainOf(wroteGone(7), doneGone(3, 1)), 1, chainOf(wroteGone(7))}, {chainOf(wroteGone(7), doneGone(3, 1)), 0, chainOf(wroteGone(7), doneGone(3, 1))},
		{nil, 0, nil}, {nil, topAt, nil},
	} {
		if got := impl.PurgeChain(c.chain, c.floor); got.Code != impl.OK || !slices.Equal(got.Chain, c.want) {
			t.Errorf("PurgeChain(%+v, %d) = %+v, want %+v", c.chain, c.floor, got, c.want)
		}
	}
}

// Whoever is not behind the floor cannot tell that a chain was purged.
func TestPurgedTellsTheSame(t *testing.T) {
	cut := 0
	for _, chain := range someChains() {
		for _, floor := range atsNear(chain) {
			got, want := impl.PurgeChain(chain, floor), purgeByHand(chain, floor)
			if got.Code != impl.OK || !slices.Equal(got.Chain, want) {
				t.Fatalf("PurgeChain(%+v, %d) = %+v, want %+v", chain, floor, got, want)
			}
			cut += len(chain) - len(want)
			for _, view := range viewsNear(chain) {
				if view.At < floor {
					continue
				}
				if a, b := impl.SeenIn(chain, view), impl.SeenIn(got.Chain, view); a != b {
					t.Fatalf("%+v purged at %d: %+v saw %+v, and sees %+v", chain, floor, view, a, b)
				}
				if a, b := impl.MayWrite(chain, view), impl.MayWrite(got.Chain, view); a != b {
					t.Fatalf("%+v purged at %d: MayWrite of %+v was %d, and is %d", chain, floor, view, a, b)
				}
			}
			if again := impl.PurgeChain(got.Chain, floor); !sameChainResult(again, got) {
				t.Fatalf("%+v purged at %d: purged again it is %+v", chain, floor, again)
			}
		}
	}
	if cut < 1000 {
		t.Errorf("only %d versions were purged", cut)
	}
}

type faultyChain struct {
	name  string
	chain []impl.Version
	code  int64
}

// placedIn is a chain of three, the version at place being the one told; what stands around it leaves it all the room there is.
func placedIn(place int, v impl.Version) []impl.Version {
	out := chainOf(done(9, topAt, 90), done(8, 500, 80), done(7, 1, 70))
	out[place] = v
	return out
}

// numberFaultsOfChains: each number at the ends of its bounds and just outside them, alone and in each place.
func numberFaultsOfChains() []faultyChain {
	var out []faultyChain
	for place := range 3 {
		base := placedIn(place, impl.Version{})
		ats := []int64{topAt, 500, 1}
		for _, c := range []struct {
			number int64
			txn    int64
			value  int64
			gone   int64
		}{
			{math.MinInt64, impl.ErrRange, impl.ErrRange, impl.ErrRange}, {-1, impl.ErrRange, impl.ErrRange, impl.ErrRange}, {0, impl.ErrRange, impl.OK, impl.OK}, {1, impl.OK, impl.OK, impl.ErrForm},
			{998, impl.OK, impl.OK, impl.ErrForm}, {999, impl.OK, impl.OK, impl.ErrForm}, {1000, impl.ErrRange, impl.OK, impl.ErrForm}, {9999, impl.ErrRange, impl.OK, impl.ErrForm},
			{10000, impl.ErrRange, impl.ErrRange, impl.ErrRange}, {math.MaxInt64, impl.ErrRange, impl.ErrRange, impl.ErrRange},
		} {
			for name, f := range map[string]struct {
				v    impl.Version
				code int64
			}{
				"Txn":        {done(c.number, ats[place], 5), c.txn},
				"Txn, Gone":  {doneGone(c.number, ats[place]), c.txn},
				"Value":      {done(5, ats[place], c.number), c.value},
				"Gone Value": {impl.Version{Txn: 5, At: ats[place], Gone: true, Value: c.number}, c.gone},
			} {
				chain := slices.Clone(base)
				chain[place] = f.v
				out = append(out,
					faultyChain{fmt.Sprintf("%s %d in place %d", name, c.number, place), chain, f.code},
					faultyChain{fmt.Sprintf("%s %d alone", name, c.number), chainOf(f.v), f.code})
			}
		}
	}
	for _, at := range []int64{math.MinInt64, -1, topAt + 1, math.MaxInt64} {
		out = append(out, faultyChain{fmt.Sprintf("At %d alone", at), chainOf(done(5, at, 5)), impl.ErrRange}, faultyChain{fmt.Sprintf("Gone at %d alone", at), chainOf(doneGone(5, at)), impl.ErrRange})
		for place := range 3 {
			out = append(out, faultyChain{fmt.Sprintf("At %d in place %d", at, place), placedIn(place, done(5, at, 5)), impl.ErrRange})
		}
	}
	return out
}

func orderFaultsOfChains() []faultyChain {
	var out []faultyChain
	for _, c := range []struct {
		ats  []int64
		code int64
	}{
		{[]int64{0}, impl.OK}, {[]int64{1}, impl.OK}, {[]int64{topAt}, impl.OK}, {[]int64{0, topAt}, impl.OK}, {[]int64{0, 1}, impl.OK}, {[]int64{2, 1}, impl.OK}, {[]int64{topAt, 1}, impl.OK},
		{[]int64{1, 1}, impl.ErrForm}, {[]int64{1, 2}, impl.ErrForm}, {[]int64{1, 0}, impl.ErrForm}, {[]int64{0, 0}, impl.ErrForm}, {[]int64{topAt, topAt}, impl.ErrForm}, {[]int64{1, topAt}, impl.ErrForm},
		{[]int64{0, 5, 4}, impl.OK}, {[]int64{0, 5, 5}, impl.ErrForm}, {[]int64{0, 5, 6}, impl.ErrForm}, {[]int64{0, 5, 0}, impl.ErrForm}, {[]int64{0, 0, 5}, impl.ErrForm}, {[]int64{6, 0, 5}, impl.ErrForm},
		{[]int64{6, 5, 4, 3}, impl.OK}, {[]int64{6, 5, 4, 4}, impl.ErrForm}, {[]int64{6, 5, 4, 5}, impl.ErrForm}, {[]int64{6, 5, 4, 0}, impl.ErrForm}, {[]int64{6, 6, 4, 3}, impl.ErrForm}, {[]int64{0, 6, 4, 5, 3}, impl.ErrForm},
	} {
		for gone := range len(c.ats) + 1 { // one of them may be Gone
			var chain []impl.Version
			for i, at := range c.ats {
				chain = append(chain, impl.Version{Txn: 5 + int64(i), At: at, Gone: i == gone})
			}
			out = append(out, faultyChain{fmt.Sprintf("At %v, %d Gone", c.ats, gone), chain, c.code})
		}
	}
	return out
}

func countFaultsOfChains() []faultyChain {
	long := fallingChain(mostVersions+1, 900, 50, 1)
	open := append(chainOf(wrote(7, 1)), fallingChain(mostVersions, 900, 50, 2)...)
	wrong := slices.Clone(long)
	wrong[0].Txn = 1000
	far := slices.Clone(long)
	far[12].Value = -1
	return []faultyChain{
		{"no versions", nil, impl.OK}, {"12 versions", long[:12], impl.OK}, {"12 versions, one open", open[:12], impl.OK},
		{"13 versions", long, impl.ErrMany}, {"13 versions, one open", open, impl.ErrMany},
		{"13 versions, a wrong Txn", wrong, impl.ErrMany}, {"13 versions, a wrong Value", far, impl.ErrMany},
		{"13 alike", slices.Repeat(chainOf(done(5, 5, 5)), 13), impl.ErrMany}, {"13 of zeros", make([]impl.Version, 13), impl.ErrMany}, {"100 versions", fallingChain(100, 900, 5, 0), impl.ErrMany},
		{"12 of zeros", make([]impl.Version, 12), impl.ErrRange}, {"12 alike", slices.Repeat(chainOf(done(5, 5, 5)), 12), impl.ErrForm},
	}
}

// twoFaultsOfChains: a version is asked all ahead of the next one, and first what leaves its bounds.
func twoFaultsOfChains() []faultyChain {
	form, wide := impl.Version{Txn: 5, At: 9, Gone: true, Value: 1}, done(1000, 8, 1)
	return []faultyChain{
		{"form ahead of range", chainOf(form, wide), impl.ErrForm}, {"range ahead of form", chainOf(done(1000, 9, 1), impl.Version{Txn: 5, At: 8, Gone: true, Value: 1}), impl.ErrRange},
		{"order ahead of range", chainOf(done(5, 9, 1), done(5, 9, 1), wide), impl.ErrForm}, {"range ahead of order", chainOf(wide, done(5, 9, 1)), impl.ErrRange},
		{"Gone with a Value that is too great", chainOf(impl.Version{Txn: 5, At: 9, Gone: true, Value: 10000}), impl.ErrRange}, {"Gone with a Value, by 0", chainOf(impl.Version{At: 9, Gone: true, Value: 1}), impl.ErrRange},
		{"rising, by 1000", chainOf(done(5, 8, 1), done(1000, 9, 1)), impl.ErrRange}, {"rising, with Value -1", chainOf(done(5, 8, 1), done(5, 9, -1)), impl.ErrRange}, {"open behind, by 0", chainOf(done(5, 8, 1), wrote(0, 1)), impl.ErrRange},
		{"open twice, then range", chainOf(wrote(5, 1), wrote(5, 1), wide), impl.ErrForm}, {"range at the end", append(fallingChain(11, 900, 50, 0), done(5, -1, 1)), impl.ErrRange},
	}
}

func chainFaults() []faultyChain {
	return slices.Concat(countFaultsOfChains(), numberFaultsOfChains(), orderFaultsOfChains(), twoFaultsOfChains())
}

func TestChainFault(t *testing.T) {
	met := map[int64]int{}
	for _, f := range chainFaults() {
		met[f.code]++
		if got, by := impl.ChainFault(f.chain), chainFaultByHand(f.chain); got != f.code || by != f.code {
			t.Errorf("%s: ChainFault = %d, by hand %d, want %d", f.name, got, by, f.code)
		}
	}
	if len(met) != 4 {
		t.Errorf("not all codes were met: %v", met)
	}
}

// Each pair of versions whose numbers are at the ends of their bounds, or just outside.
func TestChainFaultOfAnyPair(t *testing.T) {
	var versions []impl.Version
	for _, txn := range []int64{0, 1, 999, 1000} {
		for _, at := range []int64{-1, 0, 1, 2, topAt, topAt + 1} {
			for _, value := range []int64{-1, 0, 9999, 10000} {
				versions = append(versions, done(txn, at, value), impl.Version{Txn: txn, At: at, Gone: true, Value: value})
			}
		}
	}
	for _, a := range versions {
		for _, b := range versions {
			chain := chainOf(a, b)
			if got, want := impl.ChainFault(chain), chainFaultByHand(chain); got != want {
				t.Fatalf("ChainFault(%+v) = %d, want %d", chain, got, want)
			}
		}
	}
}

func wrongViews() []impl.View {
	return []impl.View{{At: -1, Own: 7}, {At: topAt + 1, Own: 7}, {At: 5, Own: -1}, {At: 5, Own: topTxn + 1}, {At: -1, Own: -1}, {At: -1}, {At: math.MinInt64, Own: 7}, {At: math.MaxInt64, Own: 7}, {At: 5, Own: math.MinInt64}, {At: 5, Own: math.MaxInt64}}
}

// A chain's own fault comes ahead of whatever else is wrong.
func TestChainFaultComesFirst(t *testing.T) {
	views := append(wrongViews(), impl.View{At: 5, Own: 7}, impl.View{At: 5}, impl.View{})
	for _, f := range chainFaults() {
		if f.code == impl.OK {
			continue
		}
		wantCode(t, f.name+": WriterOf", impl.WriterOf(f.chain), f.code)
		for _, view := range views {
			wantCode(t, f.name+": SeenIn", impl.SeenIn(f.chain, view), f.code)
			if got := impl.MayWrite(f.chain, view); got != f.code {
				t.Errorf("%s: MayWrite = %d, want %d", f.name, got, f.code)
			}
			for _, value := range []int64{-1, 0, 5, 10000} {
				wantCode(t, f.name+": PushVersion", impl.PushVersion(f.chain, view, false, value), f.code)
				wantCode(t, f.name+": PushVersion of none", impl.PushVersion(f.chain, view, true, value), f.code)
			}
		}
		for _, number := range []int64{-1, 0, 1, 5, 7, 999, 1000, topAt, topAt + 1} {
			wantCode(t, f.name+": CommitChain", impl.CommitChain(f.chain, number, 9), f.code)
			wantCode(t, f.name+": CommitChain", impl.CommitChain(f.chain, 5, number), f.code)
			wantCode(t, f.name+": RollChain", impl.RollChain(f.chain, number), f.code)
			wantCode(t, f.name+": PurgeChain", impl.PurgeChain(f.chain, number), f.code)
		}
	}
}

// A wrong view comes ahead of what would be written, and of whether it may be.
func TestWrongViews(t *testing.T) {
	for _, chain := range someChains() {
		for _, view := range wrongViews() {
			name := fmt.Sprintf("%+v of %+v", view, chain)
			wantCode(t, name+": SeenIn", impl.SeenIn(chain, view), impl.ErrRange)
			if got := impl.MayWrite(chain, view); got != impl.ErrRange {
				t.Errorf("%s: MayWrite = %d", name, got)
			}
			wantCode(t, name+": PushVersion", impl.PushVersion(chain, view, false, 5), impl.ErrRange)
			wantCode(t, name+": PushVersion, Gone with a value", impl.PushVersion(chain, view, true, 5), impl.ErrRange)
		}
		for _, view := range []impl.View{{}, {At: topAt}, {Own: topTxn}, {At: topAt, Own: topTxn}} {
			if got := impl.SeenIn(chain, view).Code; got == impl.ErrRange {
				t.Errorf("SeenIn(%+v, %+v) tells ErrRange", chain, view)
			}
			if got := impl.MayWrite(chain, view); (got == impl.ErrRange) != (view.Own == 0) {
				t.Errorf("MayWrite(%+v, %+v) = %d", chain, view, got)
			}
		}
	}
}

func TestCodesOfPushVersion(t *testing.T) {
	full := fallingChain(mostVersions, 900, 50, 1)
	others, later := chainOf(wrote(6, 1), done(5, 3, 1)), chainOf(done(6, 9, 1))
	fullOther := append(chainOf(wrote(6, 1)), full[1:]...)
	for _, c := range []struct {
		name  string
		chain []impl.Version
		view  impl.View
		gone  bool
		value int64
		code  int64
	}{
		{"value -1", nil, impl.View{At: 5, Own: 7}, false, -1, impl.ErrRange}, {"value 10000", nil, impl.View{At: 5, Own: 7}, false, 10000, impl.ErrRange},
		{"value 0", nil, impl.View{At: 5, Own: 7}, false, 0, impl.OK}, {"value 9999", nil, impl.View{At: 5, Own: 7}, false, 9999, impl.OK},
		{"least value", nil, impl.View{At: 5, Own: 7}, false, math.MinInt64, impl.ErrRange}, {"greatest value", nil, impl.View{At: 5, Own: 7}, false, math.MaxInt64, impl.ErrRange},
		{"gone, -1", nil, impl.View{At: 5, Own: 7}, true, -1, impl.ErrRange}, {"gone, 10000", nil, impl.View{At: 5, Own: 7}, true, 10000, impl.ErrRange},
		{"gone, 1", nil, impl.View{At: 5, Own: 7}, true, 1, impl.ErrForm}, {"gone, 9999", nil, impl.View{At: 5, Own: 7}, true, 9999, impl.ErrForm}, {"gone, 0", nil, impl.View{At: 5, Own: 7}, true, 0, impl.OK},
		{"nobody's", nil, impl.View{At: 5}, false, 1, impl.ErrRange}, {"nobody's, gone", nil, impl.View{At: 5}, true, 0, impl.ErrRange}, {"nobody's, gone with a value", nil, impl.View{At: 5}, true, 1, impl.ErrForm},
		{"another's, wrong value", others, impl.View{At: 5, Own: 7}, false, 10000, impl.ErrRange}, {"another's, gone with a value", others, impl.View{At: 5, Own: 7}, true, 1, impl.ErrForm},
		{"another's", others, impl.View{At: 5, Own: 7}, false, 1, impl.ErrConflict}, {"another's, nobody's view", others, impl.View{At: 5}, false, 1, impl.ErrRange},
		{"committed above", later, impl.View{At: 8, Own: 7}, false, 1, impl.ErrConflict}, {"committed above, gone with a value", later, impl.View{At: 8, Own: 7}, true, 1, impl.ErrForm},
		{"committed above, nobody's view", later, impl.View{At: 8}, false, 1, impl.ErrRange}, {"committed there", later, impl.View{At: 9, Own: 7}, false, 1, impl.OK},
		{"full", full, impl.View{At: 900, Own: 7}, false, 1, impl.ErrMany}, {"full, gone", full, impl.View{At: 900, Own: 7}, true, 0, impl.ErrMany}, {"full, wrong value", full, impl.View{At: 900, Own: 7}, false, -1, impl.ErrRange},
		{"full, gone with a value", full, impl.View{At: 900, Own: 7}, true, 3, impl.ErrForm}, {"full, committed above", full, impl.View{At: 899, Own: 7}, false, 1, impl.ErrConflict}, {"full, nobody's", full, impl.View{At: 900}, false, 1, impl.ErrRange},
		{"full, another's", fullOther, impl.View{At: 900, Own: 7}, false, 1, impl.ErrConflict}, {"full, its own", fullOther, impl.View{At: 1, Own: 6}, false, 1, impl.OK},
	} {
		wantCode(t, c.name, impl.PushVersion(c.chain, c.view, c.gone, c.value), c.code)
	}
}

func TestCodesOfCommitRollAndPurge(t *testing.T) {
	none := [][]impl.Version{nil, chainOf(done(7, 5, 1)), chainOf(doneGone(7, 5)), chainOf(wrote(6, 1)), chainOf(wrote(6, 1), done(7, 5, 1)), chainOf(done(7, 5, 1), done(7, 4, 1))}
	edges := [][]impl.Version{chainOf(wrote(1, 1)), chainOf(wrote(999, 1)), chainOf(wrote(7, 1), done(3, 5, 1))}
	for _, chain := range append(none, edges...) {
		name := fmt.Sprintf("%+v", chain)
		for _, txn := range []int64{math.MinInt64, -1, 0, 1000, math.MaxInt64} {
			wantCode(t, name+": CommitChain by wrong", impl.CommitChain(chain, txn, 9), impl.ErrRange)
			wantCode(t, name+": CommitChain by wrong at 5", impl.CommitChain(chain, txn, 5), impl.ErrRange)
			wantCode(t, name+": RollChain of wrong", impl.RollChain(chain, txn), impl.ErrRange)
		}
		for _, at := range []int64{math.MinInt64, -1, 0, topAt + 1, math.MaxInt64} {
			wantCode(t, name+": CommitChain at wrong", impl.CommitChain(chain, 7, at), impl.ErrRange)
			wantCode(t, name+": CommitChain by another at wrong", impl.CommitChain(chain, 8, at), impl.ErrRange)
		}
		for _, floor := range []int64{math.MinInt64, -1, topAt + 1, math.MaxInt64} {
			wantCode(t, name+": PurgeChain at wrong", impl.PurgeChain(chain, floor), impl.ErrRange)
		}
		for _, floor := range []int64{0, topAt} {
			wantCode(t, name+": PurgeChain", impl.PurgeChain(chain, floor), impl.OK)
		}
	}
	for _, chain := range none {
		for _, at := range []int64{1, 4, 5, 6, topAt} {
			wantCode(t, fmt.Sprintf("%+v: CommitChain", chain), impl.CommitChain(chain, 7, at), impl.ErrNone)
		}
		wantCode(t, fmt.Sprintf("%+v: RollChain", chain), impl.RollChain(chain, 7), impl.ErrNone)
	}
	for _, at := range []int64{1, topAt} {
		wantCode(t, "CommitChain by 1", impl.CommitChain(edges[0], 1, at), impl.OK)
		wantCode(t, "CommitChain by 999", impl.CommitChain(edges[1], 999, at), impl.OK)
	}
	wantCode(t, "RollChain of 1", impl.RollChain(edges[0], 1), impl.OK)
	wantCode(t, "RollChain of 999", impl.RollChain(edges[1], 999), impl.OK)
	wantCode(t, "CommitChain at the second", impl.CommitChain(edges[2], 7, 5), impl.ErrForm)
	wantCode(t, "CommitChain by another at the second", impl.CommitChain(edges[2], 8, 5), impl.ErrNone)
}

func thrownVersions(d *dice) []impl.Version {
	var out []impl.Version
	at := d.upTo(40)
	if d.upTo(3) == 0 {
		at = topAt - d.upTo(2)
	}
	for range d.upTo(13) {
		v := impl.Version{Txn: 1 + d.upTo(4), At: at, Value: 5 * d.upTo(3), Gone: d.upTo(2) == 0}
		if v.Gone && d.upTo(60) > 0 {
			v.Value = 0
		}
		if len(out) == 0 && d.upTo(2) == 0 {
			v.At = 0
		} else {
			at = max(at-1-d.upTo(3), 0)
		}
		out = append(out, v)
	}
	if len(out) > 0 && d.upTo(9) == 0 {
		v := &out[d.upTo(int64(len(out)-1))]
		number := []int64{-1, 0, 1, 2, 999, 1000, 9999, 10000, topAt, topAt + 1}[d.upTo(9)]
		*[]*int64{&v.Txn, &v.At, &v.Value}[d.upTo(2)] = number
	}
	return out
}

// tellChain asks all functions of a chain.
func tellChain(chain []impl.Version, view impl.View, gone bool, value, at int64) string {
	return fmt.Sprint(impl.ChainFault(chain), impl.SeenIn(chain, view), impl.WriterOf(chain), impl.MayWrite(chain, view), impl.PushVersion(chain, view, gone, value),
		impl.CommitChain(chain, view.Own, at), impl.RollChain(chain, view.Own), impl.PurgeChain(chain, at), impl.PurgeChain(chain, view.At))
}

func tellChainByHand(chain []impl.Version, view impl.View, gone bool, value, at int64) string {
	if code := chainFaultByHand(chain); code != impl.OK {
		one, list := impl.IntResult{Code: code}, impl.ChainResult{Code: code}
		return fmt.Sprint(code, one, one, code, list, list, list, list, list)
	}
	writer := impl.IntResult{Code: impl.ErrNone}
	if len(chain) > 0 && chain[0].At == 0 {
		writer = impl.IntResult{Value: chain[0].Txn}
	}
	pushed := pushByHand(chain, view, gone, value)
	if gone && value != 0 {
		pushed = impl.ChainResult{Code: impl.ErrForm}
	}
	committed, rolled := commitByHand(chain, view.Own, at), rollByHand(chain, view.Own)
	if view.Own == 0 {
		committed, rolled = impl.ChainResult{Code: impl.ErrRange}, impl.ChainResult{Code: impl.ErrRange}
	}
	return fmt.Sprint(impl.OK, seenByHand(chain, view), writer, mayWriteByHand(chain, view), pushed, committed, rolled,
		impl.ChainResult{Chain: purgeByHand(chain, at)}, impl.ChainResult{Chain: purgeByHand(chain, view.At)})
}

func TestChainsThatWereThrown(t *testing.T) {
	d := dice(50)
	met := map[int64]int{}
	for range 40000 {
		chain := thrownVersions(&d)
		view, gone, value, at := impl.View{At: d.upTo(42), Own: d.upTo(5)}, d.upTo(3) == 0, d.upTo(3), 1+d.upTo(42)
		if d.upTo(3) == 0 {
			view.At, at = topAt-d.upTo(12), topAt-d.upTo(12)
		}
		met[chainFaultByHand(chain)]++
		if got, want := tellChain(chain, view, gone, value, at), tellChainByHand(chain, view, gone, value, at); got != want {
			t.Fatalf("%+v, %+v, %t %d, at %d: %s, want %s", chain, view, gone, value, at, got, want)
		}
	}
	for _, code := range []int64{impl.OK, impl.ErrForm, impl.ErrMany, impl.ErrRange} {
		if met[code] < 200 {
			t.Errorf("code %d was met only %d times", code, met[code])
		}
	}
}

// A chain that goes from hand to hand: each one that holds a view goes on to see what it saw, and its own writes.
func TestChainThroughItsLife(t *testing.T) {
	d := dice(51)
	for range 300 {
		var chain []impl.Version
		clock := int64(0)
		for step := range 40 {
			own := 1 + d.upTo(topTxn-1)
			view := impl.View{At: clock, Own: own}
			before := impl.SeenIn(chain, impl.View{At: clock})
			gone, value := step%3 == 2, int64(step)
			if gone {
				value = 0
			}
			pushed := impl.PushVersion(chain, view, gone, value)
			if len(chain) == mostVersions {
				wantCode(t, "PushVersion onto a full chain", pushed, impl.ErrMany)
				chain = impl.PurgeChain(chain, clock-d.upTo(4)).Chain
				continue
			}
			if pushed.Code != impl.OK || impl.SeenIn(pushed.Chain, impl.View{At: clock}) != before {
				t.Fatalf("%+v pushed onto %+v: %+v", view, chain, pushed)
			}
			if d.upTo(3) == 0 {
				if rolled := impl.RollChain(pushed.Chain, own); !slices.Equal(rolled.Chain, chain) {
					t.Fatalf("%+v rolled back is %+v", pushed, rolled)
				}
				continue
			}
			clock += 1 + d.upTo(1)
			made := impl.CommitChain(pushed.Chain, own, clock)
			if made.Code != impl.OK || impl.SeenIn(made.Chain, impl.View{At: clock - 1, Own: own}) != before || impl.SeenIn(made.Chain, impl.View{At: clock}) != impl.SeenIn(pushed.Chain, view) {
				t.Fatalf("%+v committed at %d: %+v", pushed, clock, made)
			}
			chain = made.Chain
		}
	}
}

func chainWithRoom(chain []impl.Version) []impl.Version {
	out := append(make([]impl.Version, 0, len(chain)+3), chain...)
	for i := len(chain); i < cap(out); i++ {
		out[:cap(out)][i] = done(600+int64(i), 5, 60)
	}
	return out
}

// chainsToAsk: sound ones, and ones that have a fault.
func chainsToAsk() [][]impl.Version {
	out := someChains()
	for _, f := range chainFaults() {
		out = append(out, f.chain)
	}
	return out
}

func TestChainArgumentsStay(t *testing.T) {
	for n, chain := range chainsToAsk() {
		with := chainWithRoom(chain)
		before := wholeRoom(with)
		for _, view := range append(viewsNear(chain), wrongViews()...) {
			tellChain(with, view, false, 5, 9)
			tellChain(with, view, true, 0, view.At)
			impl.CommitChain(with, 1, topAt)
			impl.CommitChain(with, topTxn, topAt)
		}
		if !slices.Equal(wholeRoom(with), before) || !slices.Equal(with, chain) {
			t.Fatalf("chain %d was changed", n)
		}
	}
}

// chainAnswers: each chain that is answered of one, told by a view that may write.
func chainAnswers(chain []impl.Version) [][]impl.Version {
	own := int64(7)
	if len(chain) > 0 && chain[0].At == 0 {
		own = chain[0].Txn
	}
	view := impl.View{At: topAt, Own: own}
	out := [][]impl.Version{
		impl.PushVersion(chain, view, false, 5).Chain, impl.PushVersion(chain, view, true, 0).Chain,
		impl.CommitChain(chain, own, topAt).Chain, impl.RollChain(chain, own).Chain,
	}
	for _, floor := range atsNear(chain) {
		out = append(out, impl.PurgeChain(chain, floor).Chain)
	}
	return out
}

func copyChains(chains [][]impl.Version) [][]impl.Version {
	var out [][]impl.Version
	for _, chain := range chains {
		out = append(out, slices.Clone(chain))
	}
	return out
}

func TestChainAnswersAreNewMemory(t *testing.T) {
	bad := done(-5, -5, -5)
	for n, chain := range someChains() {
		with := chainWithRoom(chain)
		before := wholeRoom(with)
		spoilt, other := chainAnswers(with), chainAnswers(with)
		want := copyChains(other)
		for _, answer := range spoilt {
			spoil(answer, bad)
		}
		for a := range other {
			if !slices.Equal(other[a], want[a]) {
				t.Fatalf("chain %d: answer %d shares memory with another answer", n, a)
			}
		}
		if !slices.Equal(wholeRoom(with), before) {
			t.Fatalf("chain %d: an answer shares memory with its argument", n)
		}
		spoil(with, bad)
		for a := range other {
			if !slices.Equal(other[a], want[a]) {
				t.Fatalf("chain %d: answer %d hangs on what its argument became", n, a)
			}
		}
	}
}

func TestNilAndEmptyChainsAreAlike(t *testing.T) {
	for _, view := range append(viewsNear(nil), wrongViews()...) {
		for _, at := range []int64{-1, 0, 1, topAt, topAt + 1} {
			if a, b := tellChain(nil, view, false, 5, at), tellChain([]impl.Version{}, view, false, 5, at); a != b {
				t.Errorf("%+v, at %d: with nil %s, with an empty list %s", view, at, a, b)
			}
			if a, b := tellChain(nil, view, true, 0, at), tellChain(make([]impl.Version, 0, 9), view, true, 0, at); a != b {
				t.Errorf("%+v, at %d: with nil %s, with an empty list %s", view, at, a, b)
			}
		}
	}
	if got := impl.PurgeChain(chainOf(doneGone(3, 5)), 5); len(got.Chain) != 0 || got.Code != impl.OK {
		t.Errorf("what is purged of all is %+v", got)
	}
}

func TestChainsKeepNothing(t *testing.T) {
	wantSameAgain(t, chainsToAsk(), func(chain []impl.Version) string {
		return tellChain(chain, impl.View{At: 5, Own: 7}, false, 5, 9) + tellChain(chain, impl.View{At: topAt, Own: 3}, true, 0, 4) + tellChain(chain, impl.View{}, true, 1, 0)
	})
}

func TestChainsNeverPanic(t *testing.T) {
	numbers := []int64{math.MinInt64, -1, 0, 1, 2, 3, 4, 5, 999, 1000, 9999, 10000, topAt, topAt + 1, math.MaxInt64}
	d := dice(52)
	pick := func() int64 { return numbers[d.upTo(int64(len(numbers)-1))] }
	for range 20000 {
		chain := thrownVersions(&d)
		if d.upTo(2) == 0 {
			chain = append(chain, impl.Version{Txn: pick(), At: pick(), Gone: d.upTo(1) == 0, Value: pick()})
		}
		view, gone, value, at := impl.View{At: pick(), Own: pick()}, d.upTo(1) == 0, pick(), pick()
		mustPanicNever(t, fmt.Sprintf("%+v", chain), func() { tellChain(chain, view, gone, value, at) })
	}
}
