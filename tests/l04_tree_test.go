package tests

import (
	"fmt"
	"math"
	"slices"
	"testing"

	"loop.example/g00216/impl"
)

const highestKey = 10000
const mostNodes = 60

func leafOf(keys ...int64) impl.Node { return impl.Node{Leaf: true, Keys: keys} }

// nodeOf has its Keys first, and then one Kid more than these.
func nodeOf(keysAndKids ...int64) impl.Node {
	half := len(keysAndKids) / 2
	return impl.Node{Keys: slices.Clone(keysAndKids[:half]), Kids: slices.Clone(keysAndKids[half:])}
}

func treeOf(root int64, nodes ...impl.Node) impl.Tree {
	return impl.Tree{Root: root, Nodes: nodes}
}

func copyTree(t impl.Tree) impl.Tree {
	out := impl.Tree{Root: t.Root}
	for _, n := range t.Nodes {
		out.Nodes = append(out.Nodes, impl.Node{Leaf: n.Leaf, Keys: slices.Clone(n.Keys), Kids: slices.Clone(n.Kids)})
	}
	return out
}

func sameTree(a, b impl.Tree) bool {
	return a.Root == b.Root && slices.EqualFunc(a.Nodes, b.Nodes, func(m, n impl.Node) bool {
		return m.Leaf == n.Leaf && slices.Equal(m.Keys, n.Keys) && slices.Equal(m.Kids, n.Kids)
	})
}

// treeOfRows: each node of a row has so many kids; below the last row stand leaves, the i-th with fill keys of i*100+10, +20 and +30. Which place a node has is thrown.
func treeOfRows(rows [][]int64, fill int, d *dice) impl.Tree {
	count, rowSize := int64(1), int64(1)
	for _, row := range rows {
		rowSize = 0
		for _, kids := range row {
			rowSize += kids
		}
		count += rowSize
	}
	places := thrownOrder(count, d)
	t := impl.Tree{Root: places[0], Nodes: make([]impl.Node, count)}
	leaves := places[count-rowSize:]
	lows := map[int64]int64{} // of each place: where what is below it begins
	for i, place := range leaves {
		low := int64(i) * 100
		lows[place] = low
		t.Nodes[place] = leafOf([]int64{low + 10, low + 20, low + 30}[:fill]...)
	}
	end := count - rowSize
	for r := len(rows) - 1; r >= 0; r-- {
		below := places[end:]
		end -= int64(len(rows[r]))
		for i, kids := range rows[r] {
			place := places[end+int64(i)]
			n := &t.Nodes[place]
			n.Kids = slices.Clone(below[:kids])
			for _, kid := range n.Kids[1:] {
				n.Keys = append(n.Keys, lows[kid])
			}
			lows[place] = lows[n.Kids[0]]
			below = below[kids:]
		}
	}
	return t
}

func thrownOrder(count int64, d *dice) []int64 {
	var out []int64
	for i := range count {
		out = slices.Insert(out, int(d.upTo(i)), i)
	}
	return out
}

// pathByHand takes the last kid that does not begin above key.
func pathByHand(t impl.Tree, key int64) []int64 {
	path := []int64{t.Root}
	for n := t.Nodes[t.Root]; !n.Leaf; n = t.Nodes[path[len(path)-1]] {
		k := len(n.Keys)
		for k > 0 && n.Keys[k-1] > key {
			k--
		}
		path = append(path, n.Kids[k])
	}
	return path
}

func keysByHand(t impl.Tree, low, high int64) []int64 {
	var out []int64
	for _, n := range t.Nodes {
		for _, key := range n.Keys {
			if n.Leaf && key >= low && key <= high {
				out = append(out, key)
			}
		}
	}
	slices.Sort(out)
	return out
}

// addByHand looks for the node above among all nodes, and knows nothing of how many there may be.
func addByHand(t impl.Tree, key int64) impl.Tree {
	t = copyTree(t)
	path := pathByHand(t, key)
	at := path[len(path)-1]
	t.Nodes[at].Keys = append(t.Nodes[at].Keys, key)
	slices.Sort(t.Nodes[at].Keys)
	for len(t.Nodes[at].Keys) == 4 {
		old := t.Nodes[at]
		made := int64(len(t.Nodes))
		t.Nodes[at] = impl.Node{Leaf: old.Leaf, Keys: old.Keys[:2]}
		t.Nodes = append(t.Nodes, impl.Node{Leaf: old.Leaf, Keys: old.Keys[2:]})
		if !old.Leaf {
			t.Nodes[at].Kids = slices.Clone(old.Kids[:3])
			t.Nodes[made] = impl.Node{Keys: old.Keys[3:], Kids: old.Kids[3:]}
		}
		above := slices.IndexFunc(t.Nodes[:made], func(n impl.Node) bool { return slices.Contains(n.Kids, at) })
		if above < 0 {
			t.Nodes = append(t.Nodes, nodeOf(old.Keys[2], at, made))
			t.Root = made + 1
			break
		}
		n := &t.Nodes[above]
		n.Keys = append(n.Keys, old.Keys[2])
		slices.Sort(n.Keys)
		n.Kids = slices.Insert(n.Kids, slices.Index(n.Kids, at)+1, made)
		at = int64(above)
	}
	return copyTree(t)
}

func cutByHand(t impl.Tree, key int64) impl.Tree {
	t = copyTree(t)
	for i, n := range t.Nodes {
		if n.Leaf {
			t.Nodes[i].Keys = slices.DeleteFunc(n.Keys, func(k int64) bool { return k == key })
		}
	}
	return t
}

// treeFaultByHand holds each node against all that is below each of its kids.
func treeFaultByHand(t impl.Tree) int64 {
	count := int64(len(t.Nodes))
	if count < 1 || count > mostNodes {
		return impl.ErrMany
	}
	for _, n := range t.Nodes {
		least, kids := 1, len(n.Keys)+1
		if n.Leaf {
			least, kids = 0, 0
		}
		if len(n.Keys) < least || len(n.Keys) > 3 || len(n.Kids) != kids {
			return impl.ErrForm
		}
		if slices.ContainsFunc(n.Keys, func(k int64) bool { return k < 0 || k > highestKey }) ||
			slices.ContainsFunc(n.Kids, func(k int64) bool { return k < 0 || k >= count }) {
			return impl.ErrRange
		}
		if len(slices.Compact(slices.Sorted(slices.Values(n.Keys)))) != len(n.Keys) || !slices.IsSorted(n.Keys) {
			return impl.ErrForm
		}
	}
	if t.Root < 0 || t.Root >= count {
		return impl.ErrRange
	}
	depths := depthsByHand(t)
	if depths == nil || !boundsByHand(t) {
		return impl.ErrForm
	}
	leafDepth := int64(0)
	for place, depth := range depths {
		if t.Nodes[place].Leaf && leafDepth == 0 {
			leafDepth = depth
		}
		if depth == 0 || t.Nodes[place].Leaf && depth != leafDepth {
			return impl.ErrForm
		}
	}
	return impl.OK
}

// depthsByHand has 0 for a node that is not got to, and is nil if one is got to twice.
func depthsByHand(t impl.Tree) []int64 {
	depths := make([]int64, len(t.Nodes))
	depths[t.Root] = 1
	queue := []int64{t.Root}
	for len(queue) > 0 {
		place := queue[0]
		queue = queue[1:]
		for _, kid := range t.Nodes[place].Kids {
			if depths[kid] > 0 {
				return nil
			}
			depths[kid] = depths[place] + 1
			queue = append(queue, kid)
		}
	}
	return depths
}

func keysBelow(t impl.Tree, place int64) []int64 {
	out := slices.Clone(t.Nodes[place].Keys)
	for _, kid := range t.Nodes[place].Kids {
		out = append(out, keysBelow(t, kid)...)
	}
	return out
}

func boundsByHand(t impl.Tree) bool {
	for place, depth := range depthsByHand(t) {
		if depth == 0 {
			continue // what is not got to may go round
		}
		n := t.Nodes[place]
		for k, kid := range n.Kids {
			for _, key := range keysBelow(t, kid) {
				if k > 0 && key < n.Keys[k-1] || k < len(n.Keys) && key >= n.Keys[k] {
					return false
				}
			}
		}
	}
	return true
}

// keyOrders: rising, falling, from both ends, from the middle, by steps that go round, and thrown.
func keyOrders() [][]int64 {
	var rising, falling, ends, middle, steps []int64
	for i := range int64(40) {
		rising = append(rising, i*250+min(i, 1)*250)
		falling = append(falling, highestKey-i*3)
		ends = append(ends, [2]int64{i, highestKey - i}[i%2])
		middle = append(middle, 5000+[2]int64{i, -i}[i%2])
		steps = append(steps, i*7%40)
	}
	rising[39] = highestKey
	out := [][]int64{rising, falling, ends, middle, steps}
	d := dice(41)
	for range 30 {
		var thrown []int64
		high := []int64{39, 60, 500, highestKey}[d.upTo(3)]
		for len(thrown) < 40 {
			if key := d.upTo(high); !slices.Contains(thrown, key) {
				thrown = append(thrown, key)
			}
		}
		out = append(out, thrown)
	}
	return out
}

// oddTrees come of no keys that were added: nodes stand anywhere, leaves are empty, Keys of inner nodes are in no leaf, and may be as low as their bounds allow.
func oddTrees() []impl.Tree {
	d := dice(42)
	out := []impl.Tree{
		treeOf(0, leafOf()), treeOf(0, leafOf(0)), treeOf(0, leafOf(highestKey)), treeOf(0, leafOf(0, 5000, highestKey)),
		treeOf(1, leafOf(), nodeOf(0, 0, 2), leafOf()),
		treeOf(1, leafOf(), nodeOf(0, 0, 2), leafOf(0)),
		treeOf(1, leafOf(0, 9998, 9999), nodeOf(highestKey, 0, 2), leafOf(highestKey)),
		treeOf(2, leafOf(9), leafOf(10), nodeOf(10, 0, 1)),
		treeOf(0, nodeOf(10, 20, 30, 4, 3, 2, 1), leafOf(30), leafOf(20, 29), leafOf(10, 11, 19), leafOf(0, 9)),
		// A Key of an inner node that is its lower bound: nothing finds room below its first kid.
		treeOf(0, nodeOf(10, 1, 2), nodeOf(5, 3, 4), nodeOf(10, 5, 6), leafOf(4), leafOf(5, 9), leafOf(), leafOf(10, 11)),
		treeOf(0, nodeOf(10, 20, 1, 2, 3), nodeOf(0, 4, 5), nodeOf(10, 19, 6, 7, 8), nodeOf(highestKey, 9, 10),
			leafOf(), leafOf(9), leafOf(), leafOf(18), leafOf(19), leafOf(20), leafOf()),
		treeOfRows([][]int64{{4}, {4, 4, 4, 4}}, 3, &d),
		treeOfRows([][]int64{{2}, {2, 2}, {2, 2, 2, 2}, {2, 2, 2, 2, 2, 2, 2, 2}}, 1, &d),
	}
	for fill := range 4 {
		out = append(out, treeOfRows([][]int64{{2}}, fill, &d), treeOfRows([][]int64{{3}, {2, 4, 3}}, fill, &d),
			treeOfRows([][]int64{{4}, {2, 3, 3, 4}, {4, 3, 4, 2, 4, 4, 4, 4, 4, 4, 2, 4}}, fill, &d))
	}
	return out
}

// someTrees has trees of all orders as they grow, such as keys were cut from, and odd ones.
func someTrees() []impl.Tree {
	out := oddTrees()
	d := dice(43)
	for n, order := range keyOrders() {
		tree := impl.Tree{Nodes: []impl.Node{leafOf()}}
		for i, key := range order {
			if i%3 == n%3 {
				out = append(out, tree)
			}
			tree = addByHand(tree, key)
		}
		out = append(out, tree)
		for len(order) > 0 {
			at := int(d.upTo(int64(len(order) - 1)))
			tree = cutByHand(tree, order[at])
			order = slices.Delete(slices.Clone(order), at, at+1)
			if len(order)%7 == n%7 {
				out = append(out, tree)
			}
		}
	}
	return out
}

// keysNear has all Keys of a tree, those beside them, and the ends of what may be a key.
func keysNear(t impl.Tree) []int64 {
	out := []int64{0, 1, highestKey - 1, highestKey}
	for _, n := range t.Nodes {
		for _, key := range n.Keys {
			out = append(out, max(key-1, 0), key, min(key+1, highestKey))
		}
	}
	slices.Sort(out)
	return slices.Compact(out)
}

func checkTree(t *testing.T, name string, tree impl.Tree, keys []int64) {
	t.Helper()
	if impl.TreeFault(tree) != impl.OK || treeFaultByHand(tree) != impl.OK {
		t.Errorf("%s: TreeFault of %+v = %d, by hand %d", name, tree, impl.TreeFault(tree), treeFaultByHand(tree))
		return
	}
	if got := impl.KeysIn(tree, 0, highestKey); got.Code != impl.OK || !slices.Equal(got.List, keys) {
		t.Errorf("%s: KeysIn all of %+v = %+v, want %v", name, tree, got, keys)
	}
	for _, key := range keysNear(tree) {
		if got := impl.HasKey(tree, key); got != slices.Contains(keys, key) {
			t.Errorf("%s: HasKey(%+v, %d) = %t", name, tree, key, got)
		}
	}
}

// Promise 5: a key that is added is there, all others stay, and all leaves keep one depth.
func TestAddedKeyIsThere(t *testing.T) {
	for n, order := range keyOrders() {
		tree := impl.NewTree(nil).Tree
		for i, key := range order {
			name := fmt.Sprintf("order %d, key %d", n, i)
			if impl.HasKey(tree, key) {
				t.Errorf("%s: it is there ahead of being added", name)
			}
			got := impl.AddKey(tree, key)
			if got.Code != impl.OK || !sameTree(got.Tree, addByHand(tree, key)) {
				t.Fatalf("%s: AddKey(%+v, %d) = %+v", name, tree, key, got)
			}
			tree = got.Tree
			checkTree(t, name, tree, slices.Sorted(slices.Values(order[:i+1])))
			if made := impl.NewTree(order[:i+1]); made.Code != impl.OK || !sameTree(made.Tree, tree) {
				t.Errorf("%s: NewTree = %+v, one by one %+v", name, made, tree)
			}
		}
	}
}

func TestAddOfAnyKey(t *testing.T) {
	for n, tree := range someTrees() {
		keys := keysByHand(tree, 0, highestKey)
		for _, key := range keysNear(tree) {
			name := fmt.Sprintf("tree %d: AddKey of %d", n, key)
			got := impl.AddKey(tree, key)
			if slices.Contains(keys, key) {
				wantCode(t, name, got, impl.ErrTaken)
				continue
			}
			want := addByHand(tree, key)
			if len(want.Nodes) > mostNodes {
				wantCode(t, name, got, impl.ErrMany)
				continue
			}
			if got.Code != impl.OK || !sameTree(got.Tree, want) {
				t.Errorf("%s to %+v = %+v, want %+v", name, tree, got, want)
			}
			if impl.TreeFault(got.Tree) != impl.OK || treeFaultByHand(got.Tree) != impl.OK {
				t.Errorf("%s to %+v is a fault", name, tree)
			}
		}
	}
}

// CutKey takes just its key away: where it is the last one, the leaf is empty then.
func TestCutKey(t *testing.T) {
	emptied := 0
	for n, tree := range someTrees() {
		keys := keysByHand(tree, 0, highestKey)
		for _, key := range keysNear(tree) {
			name := fmt.Sprintf("tree %d: CutKey of %d", n, key)
			got := impl.CutKey(tree, key)
			if !slices.Contains(keys, key) {
				wantCode(t, name, got, impl.ErrNone)
				continue
			}
			if got.Code != impl.OK || !sameTree(got.Tree, cutByHand(tree, key)) {
				t.Fatalf("%s from %+v = %+v", name, tree, got)
			}
			left := slices.DeleteFunc(slices.Clone(keys), func(k int64) bool { return k == key })
			if len(left)%5 == 0 {
				checkTree(t, name, got.Tree, left)
			}
			path := impl.PathTo(got.Tree, key).List
			if len(got.Tree.Nodes[path[len(path)-1]].Keys) == 0 {
				emptied++
			}
			wantCode(t, name+" again", impl.CutKey(got.Tree, key), impl.ErrNone)
			if back := impl.AddKey(got.Tree, key); back.Code != impl.OK || !sameTree(back.Tree, tree) {
				t.Errorf("%s, and added again: %+v", name, back)
			}
		}
	}
	if emptied == 0 {
		t.Error("no leaf was emptied")
	}
}

func TestCutOfAllKeys(t *testing.T) {
	for n, order := range keyOrders() {
		tree := impl.NewTree(order).Tree
		nodes, depth := len(tree.Nodes), impl.DepthOf(tree).Value
		for i, key := range order {
			tree = impl.CutKey(tree, key).Tree
			checkTree(t, fmt.Sprintf("order %d, %d keys cut", n, i+1), tree, slices.Sorted(slices.Values(order[i+1:])))
		}
		if len(tree.Nodes) != nodes || impl.DepthOf(tree).Value != depth {
			t.Errorf("order %d: of all keys cut %d nodes are left", n, len(tree.Nodes))
		}
		for i, key := range order {
			tree = impl.AddKey(tree, key).Tree
			checkTree(t, fmt.Sprintf("order %d, %d keys added again", n, i+1), tree, slices.Sorted(slices.Values(order[:i+1])))
		}
	}
}

// Promise 5: a range tells just the keys that are there.
func TestKeysIn(t *testing.T) {
	far := []int64{math.MinInt64, -1, 10001, math.MaxInt64}
	for n, tree := range someTrees() {
		ends := append(keysNear(tree), far...)
		for i, low := range ends {
			for _, high := range append(ends[i%5:][:min(len(ends)-i%5, 9)], append(far, low-min(low, 1), low, low/2+5000)...) {
				if got, want := impl.KeysIn(tree, low, high), keysByHand(tree, low, high); got.Code != impl.OK || !slices.Equal(got.List, want) {
					t.Fatalf("tree %d: KeysIn(%+v, %d, %d) = %+v, want %v", n, tree, low, high, got, want)
				}
			}
		}
	}
}

func TestKeysInAsTold(t *testing.T) {
	tree := treeOf(0, nodeOf(10, 20, 1, 2, 3), leafOf(0, 9), leafOf(), leafOf(20, 30, highestKey))
	for _, c := range []struct {
		low, high int64
		want      []int64
	}{
		{0, highestKey, []int64{0, 9, 20, 30, highestKey}}, {1, 9999, []int64{9, 20, 30}}, {9, 20, []int64{9, 20}},
		{10, 19, nil}, {10, 20, []int64{20}}, {9, 9, []int64{9}}, {10, 10, nil}, {20, 9, nil}, {9, 8, nil},
		{highestKey, 0, nil}, {-5, 0, []int64{0}}, {-5, -1, nil}, {0, -1, nil}, {10000, 10001, []int64{highestKey}}, {10001, 10002, nil},
		{math.MinInt64, math.MaxInt64, []int64{0, 9, 20, 30, highestKey}}, {math.MaxInt64, math.MinInt64, nil},
		{math.MinInt64, 9, []int64{0, 9}}, {30, math.MaxInt64, []int64{30, highestKey}},
	} {
		if got := impl.KeysIn(tree, c.low, c.high); got.Code != impl.OK || !slices.Equal(got.List, c.want) {
			t.Errorf("KeysIn %d to %d = %+v, want %v", c.low, c.high, got, c.want)
		}
	}
}

// PathTo goes from the root to the leaf of the key, and is as long as DepthOf tells.
func TestPathTo(t *testing.T) {
	for n, tree := range someTrees() {
		depth := impl.DepthOf(tree)
		for _, key := range keysNear(tree) {
			got := impl.PathTo(tree, key)
			if got.Code != impl.OK || !slices.Equal(got.List, pathByHand(tree, key)) {
				t.Fatalf("tree %d: PathTo(%+v, %d) = %+v", n, tree, key, got)
			}
			last := tree.Nodes[got.List[len(got.List)-1]]
			if got.List[0] != tree.Root || !last.Leaf || impl.HasKey(tree, key) != slices.Contains(last.Keys, key) {
				t.Errorf("tree %d: PathTo(%+v, %d) = %+v", n, tree, key, got)
			}
			if depth.Code != impl.OK || depth.Value != int64(len(got.List)) {
				t.Errorf("tree %d: DepthOf = %+v, PathTo %d = %+v", n, depth, key, got)
			}
		}
	}
}

func TestDepthAsTold(t *testing.T) {
	d := dice(44)
	for want, rows := range [][][]int64{nil, {{2}}, {{3}, {2, 4, 2}}, {{2}, {2, 2}, {2, 2, 2, 4}}, {{2}, {2, 2}, {2, 2, 2, 2}, {2, 2, 2, 2, 2, 2, 2, 2}}} {
		if got := impl.DepthOf(treeOfRows(rows, 2, &d)); got.Code != impl.OK || got.Value != int64(want)+1 {
			t.Errorf("DepthOf = %+v, want %d", got, want+1)
		}
	}
}

type adding struct {
	name string
	tree impl.Tree
	key  int64
	want impl.Tree
}

func leafSplits() []adding {
	one := treeOf(0, leafOf(2, 5, 9))
	two := treeOf(2, leafOf(1, 2, 3), leafOf(5, 7, 9), nodeOf(5, 0, 1))
	three := treeOf(0, nodeOf(10, 20, 1, 2, 3), leafOf(1), leafOf(12, 14, 16), leafOf(20))
	return []adding{
		{"to an empty leaf", treeOf(0, leafOf()), 4, treeOf(0, leafOf(4))},
		{"to a leaf with two Keys", treeOf(0, leafOf(2, 9)), 4, treeOf(0, leafOf(2, 4, 9))},
		{"a new root, the first Key", one, 0, treeOf(2, leafOf(0, 2), leafOf(5, 9), nodeOf(5, 0, 1))},
		{"a new root, the second Key", one, 4, treeOf(2, leafOf(2, 4), leafOf(5, 9), nodeOf(5, 0, 1))},
		{"a new root, the third Key", one, 7, treeOf(2, leafOf(2, 5), leafOf(7, 9), nodeOf(7, 0, 1))},
		{"a new root, the last Key", one, highestKey, treeOf(2, leafOf(2, 5), leafOf(9, highestKey), nodeOf(9, 0, 1))},
		{"the first kid is split", two, 4, treeOf(2, leafOf(1, 2), leafOf(5, 7, 9), nodeOf(3, 5, 0, 3, 1), leafOf(3, 4))},
		{"the last kid is split", two, 6, treeOf(2, leafOf(1, 2, 3), leafOf(5, 6), nodeOf(5, 7, 0, 1, 3), leafOf(7, 9))},
		{"the kid between is split", three, 10, treeOf(0, nodeOf(10, 14, 20, 1, 2, 4, 3), leafOf(1), leafOf(10, 12), leafOf(20), leafOf(14, 16))},
		{"an empty kid gets a key", treeOf(2, leafOf(), leafOf(5), nodeOf(5, 0, 1)), 4, treeOf(2, leafOf(4), leafOf(5), nodeOf(5, 0, 1))},
	}
}

func rootSplits() []adding {
	full := treeOf(0, nodeOf(10, 20, 30, 1, 2, 3, 4), leafOf(1, 2, 3), leafOf(11, 12, 13), leafOf(21, 22, 23), leafOf(31, 32, 33))
	return []adding{
		{"a full root, its first kid", full, 4, treeOf(7, nodeOf(3, 10, 1, 5, 2),
			leafOf(1, 2), leafOf(11, 12, 13), leafOf(21, 22, 23), leafOf(31, 32, 33), leafOf(3, 4), nodeOf(30, 3, 4), nodeOf(20, 0, 6))},
		{"a full root, its second kid", full, 10, treeOf(7, nodeOf(10, 12, 1, 2, 5),
			leafOf(1, 2, 3), leafOf(10, 11), leafOf(21, 22, 23), leafOf(31, 32, 33), leafOf(12, 13), nodeOf(30, 3, 4), nodeOf(20, 0, 6))},
		{"a full root, its third kid", full, 29, treeOf(7, nodeOf(10, 20, 1, 2, 3),
			leafOf(1, 2, 3), leafOf(11, 12, 13), leafOf(21, 22), leafOf(31, 32, 33), leafOf(23, 29), nodeOf(30, 5, 4), nodeOf(23, 0, 6))},
		{"a full root, its last kid", full, 30, treeOf(7, nodeOf(10, 20, 1, 2, 3),
			leafOf(1, 2, 3), leafOf(11, 12, 13), leafOf(21, 22, 23), leafOf(30, 31), leafOf(32, 33), nodeOf(32, 4, 5), nodeOf(30, 0, 6))},
	}
}

func innerSplits() []adding {
	a, b, c, e := leafOf(1, 2, 3), leafOf(11, 12, 13), leafOf(21, 22, 23), leafOf(31, 32, 33)
	left, right := leafOf(), leafOf(99)
	under := treeOf(1, nodeOf(10, 20, 30, 2, 3, 4, 5), nodeOf(50, 0, 6), a, b, c, e, nodeOf(60, 7, 8), left, right)
	behind := treeOf(1, nodeOf(10, 20, 30, 2, 3, 4, 5), nodeOf(0, 6, 0), a, b, c, e, nodeOf(0, 7, 8), left, leafOf())
	behind.Nodes[1].Keys, behind.Nodes[6].Keys = []int64{1}, []int64{0}
	return []adding{
		{"a full inner node", under, 4, treeOf(1, nodeOf(3, 10, 2, 9, 3), nodeOf(20, 50, 0, 10, 6), leafOf(1, 2), b, c, e, nodeOf(60, 7, 8), left, right,
			leafOf(3, 4), nodeOf(30, 4, 5))},
		{"a full inner node, its last kid", under, 49, treeOf(1, nodeOf(10, 20, 2, 3, 4), nodeOf(30, 50, 0, 10, 6), a, b, c, leafOf(31, 32), nodeOf(60, 7, 8), left, right,
			leafOf(33, 49), nodeOf(33, 5, 9))},
		{"a full inner node as the last kid", behind, 24, treeOf(1, nodeOf(10, 20, 2, 3, 4), nodeOf(1, 23, 6, 0, 10), a, b, leafOf(21, 22), e, nodeOf(0, 7, 8), left, leafOf(),
			leafOf(23, 24), nodeOf(30, 9, 5))},
	}
}

// Which Keys and Kids each node has then, and in which places the new ones stand.
func TestAddKeyAsTold(t *testing.T) {
	for _, c := range slices.Concat(leafSplits(), rootSplits(), innerSplits()) {
		if code := impl.TreeFault(c.tree); code != impl.OK {
			t.Errorf("%s: TreeFault ahead of it = %d", c.name, code)
		}
		got := impl.AddKey(c.tree, c.key)
		if got.Code != impl.OK || !sameTree(got.Tree, c.want) || impl.TreeFault(got.Tree) != impl.OK {
			t.Errorf("%s: %+v, want %+v", c.name, got, c.want)
		}
		if by := addByHand(c.tree, c.key); !sameTree(by, c.want) {
			t.Errorf("%s: by hand %+v, want %+v", c.name, by, c.want)
		}
	}
}

// fullTree has so many nodes; above its first leaf as many nodes as full is have three Keys, and the one above those has fewer, if there is one.
func fullTree(full int, nodes int64, d *dice) impl.Tree {
	rows := [][][]int64{
		{{4}, {4, 3, 3, 3}, {3}}, {{4}, {3, 3, 3, 2}, {4}}, {{3}, {4, 4, 4}, {4}}, {{4}, {4, 2, 2, 3}, {4}},
	}[full]
	inner := int64(1)
	for _, kids := range slices.Concat(rows[0], rows[1]) {
		inner += kids
	}
	last := rows[2]
	leaves := nodes - inner - last[0]
	for left := inner - 1 - rows[0][0] - 1; left > 0; left-- {
		kids := min(4, leaves-2*(left-1))
		last = append(last, kids)
		leaves -= kids
	}
	return treeOfRows([][]int64{rows[0], rows[1], last}, 3, d)
}

// mirrored has all the other way round: what was the first is the last.
func mirrored(t impl.Tree) impl.Tree {
	t = copyTree(t)
	for i, n := range t.Nodes {
		slices.Reverse(n.Keys)
		slices.Reverse(n.Kids)
		for k := range n.Keys {
			t.Nodes[i].Keys[k] = highestKey - n.Keys[k]
		}
	}
	return t
}

// There may be just MaxNodes nodes: each split makes one, and that of the root one more.
func TestAddKeyUpToSoManyNodes(t *testing.T) {
	d := dice(45)
	for full, made := range []int64{1, 2, 3, 5} {
		for nodes := int64(mostNodes) - made - 2; nodes <= mostNodes; nodes++ {
			plain := fullTree(full, nodes, &d)
			for i, tree := range []impl.Tree{plain, mirrored(plain)} {
				name := fmt.Sprintf("%d full nodes, %d nodes, side %d", full, nodes, i)
				key := []int64{5, highestKey - 5}[i]
				if int64(len(tree.Nodes)) != nodes || impl.TreeFault(tree) != impl.OK {
					t.Fatalf("%s: there are %d, TreeFault = %d", name, len(tree.Nodes), impl.TreeFault(tree))
				}
				got, want := impl.AddKey(tree, key), addByHand(tree, key)
				if int64(len(want.Nodes)) != nodes+made {
					t.Fatalf("%s: there would be %d", name, len(want.Nodes))
				}
				if nodes+made > mostNodes {
					wantCode(t, name, got, impl.ErrMany)
				} else if got.Code != impl.OK || !sameTree(got.Tree, want) || impl.TreeFault(got.Tree) != impl.OK {
					t.Errorf("%s: %+v", name, got)
				}
				wantCode(t, name+": what is there", impl.AddKey(tree, []int64{10, highestKey - 10}[i]), impl.ErrTaken)
				wantCode(t, name+": no key", impl.AddKey(tree, 10001), impl.ErrRange)
			}
		}
	}
}

// Where there are MaxNodes nodes a key still finds room in a leaf that is not full.
func TestAddKeyWithoutSplit(t *testing.T) {
	d := dice(46)
	tree := fullTree(3, mostNodes, &d)
	cut := impl.CutKey(tree, 20)
	got := impl.AddKey(cut.Tree, 15)
	if cut.Code != impl.OK || got.Code != impl.OK || !sameTree(got.Tree, addByHand(cut.Tree, 15)) || len(got.Tree.Nodes) != mostNodes {
		t.Errorf("AddKey = %+v", got)
	}
	wantCode(t, "AddKey to the full leaf", impl.AddKey(got.Tree, 20), impl.ErrMany)
}

// Keys are added until there is no room: what was there stays, whatever is told then.
func TestTreeUpToItsEnd(t *testing.T) {
	for n, step := range []int64{1, -1, 37} {
		tree := impl.NewTree(nil).Tree
		var keys []int64
		for i := int64(0); ; i++ {
			key := (i*step + 7*10001) % 10001
			got := impl.AddKey(tree, key)
			if len(addByHand(tree, key).Nodes) > mostNodes {
				wantCode(t, "AddKey to a full tree", got, impl.ErrMany)
				break
			}
			if got.Code != impl.OK || !sameTree(got.Tree, addByHand(tree, key)) {
				t.Fatalf("step %d: AddKey of %d = %+v", step, key, got)
			}
			tree = got.Tree
			keys = append(keys, key)
		}
		if len(keys) < 60 {
			t.Errorf("step %d: only %d keys were added", step, len(keys))
		}
		checkTree(t, fmt.Sprintf("order %d up to its end", n), tree, slices.Sorted(slices.Values(keys)))
	}
}

// Keys of inner nodes: they are there only as long as a leaf has them.
func TestKeysThatWerePutUp(t *testing.T) {
	for n, order := range keyOrders() {
		tree := impl.NewTree(order).Tree
		for place, node := range tree.Nodes {
			if node.Leaf {
				continue
			}
			for _, key := range node.Keys {
				name := fmt.Sprintf("order %d, Key %d of node %d", n, key, place)
				path := impl.PathTo(tree, key).List
				if !impl.HasKey(tree, key) || !slices.Contains(path, int64(place)) {
					t.Errorf("%s: it is not there, or not on the way", name)
				}
				wantCode(t, name+" is there", impl.AddKey(tree, key), impl.ErrTaken)
				cut := impl.CutKey(tree, key)
				if cut.Code != impl.OK || impl.HasKey(cut.Tree, key) || !slices.Contains(cut.Tree.Nodes[place].Keys, key) {
					t.Errorf("%s: CutKey = %+v", name, cut)
				}
				if got := impl.PathTo(cut.Tree, key); !slices.Equal(got.List, path) {
					t.Errorf("%s: PathTo behind the cut = %+v, want %v", name, got, path)
				}
				if got := impl.KeysIn(cut.Tree, key, key); got.Code != impl.OK || len(got.List) != 0 {
					t.Errorf("%s: KeysIn behind the cut = %+v", name, got)
				}
				wantCode(t, name+" is not there", impl.CutKey(cut.Tree, key), impl.ErrNone)
				if got := impl.AddKey(cut.Tree, key); got.Code != impl.OK || !sameTree(got.Tree, tree) {
					t.Errorf("%s: added again it is %+v", name, got)
				}
			}
		}
	}
}

func TestKeysAsTold(t *testing.T) {
	tree := impl.NewTree([]int64{5, 1, 9, 3}).Tree
	if want := treeOf(2, leafOf(1, 3), leafOf(5, 9), nodeOf(5, 0, 1)); !sameTree(tree, want) {
		t.Fatalf("NewTree = %+v, want %+v", tree, want)
	}
	for key, place := range map[int64]int64{0: 0, 3: 0, 4: 0, 5: 1, 6: 1, highestKey: 1} {
		if got := impl.PathTo(tree, key); got.Code != impl.OK || !slices.Equal(got.List, []int64{2, place}) {
			t.Errorf("PathTo %d = %+v", key, got)
		}
	}
	if got, want := impl.CutKey(tree, 5), treeOf(2, leafOf(1, 3), leafOf(9), nodeOf(5, 0, 1)); got.Code != impl.OK || !sameTree(got.Tree, want) {
		t.Errorf("CutKey = %+v, want %+v", got, want)
	}
	ends := impl.NewTree([]int64{highestKey, 0})
	if ends.Code != impl.OK || !impl.HasKey(ends.Tree, 0) || !impl.HasKey(ends.Tree, highestKey) || impl.HasKey(ends.Tree, -1) || impl.HasKey(ends.Tree, 10001) {
		t.Errorf("NewTree of 0 and 10000 = %+v", ends)
	}
	ends = impl.CutKey(impl.CutKey(ends.Tree, 0).Tree, highestKey)
	if ends.Code != impl.OK || !sameTree(ends.Tree, treeOf(0, leafOf())) {
		t.Errorf("CutKey of both = %+v", ends)
	}
}

func TestNewTree(t *testing.T) {
	for _, keys := range [][]int64{nil, {}} {
		if got := impl.NewTree(keys); got.Code != impl.OK || !sameTree(got.Tree, treeOf(0, leafOf())) {
			t.Errorf("NewTree of no keys = %+v", got)
		}
	}
	var many []int64
	for i := range int64(40) {
		many = append(many, i)
	}
	wantCode(t, "40 keys", impl.NewTree(many), impl.OK)
	far, twice := slices.Clone(many), slices.Clone(many)
	far[39], twice[39] = 10001, 38
	wantCode(t, "40 keys, the last too great", impl.NewTree(far), impl.ErrRange)
	wantCode(t, "40 keys, the last there already", impl.NewTree(twice), impl.ErrTaken)
	for _, keys := range [][]int64{many, far, twice} {
		for _, last := range []int64{40, 5, -1, 10001} {
			wantCode(t, "41 keys", impl.NewTree(append(slices.Clone(keys), last)), impl.ErrMany)
		}
	}
	wantCode(t, "very many keys", impl.NewTree(make([]int64, 1<<16)), impl.ErrMany)
	for _, c := range []struct {
		keys []int64
		code int64
	}{
		{[]int64{0}, impl.OK}, {[]int64{highestKey}, impl.OK}, {[]int64{-1}, impl.ErrRange}, {[]int64{10001}, impl.ErrRange},
		{[]int64{math.MinInt64}, impl.ErrRange}, {[]int64{math.MaxInt64}, impl.ErrRange},
		{[]int64{7, 7}, impl.ErrTaken}, {[]int64{0, 0}, impl.ErrTaken}, {[]int64{1, 2, 3, 4, 5, 3}, impl.ErrTaken},
		{[]int64{7, 7, -1}, impl.ErrTaken}, {[]int64{7, -1, 7}, impl.ErrRange}, {[]int64{-1, -1}, impl.ErrRange},
		{[]int64{1, 2, 3, 4, 10001}, impl.ErrRange},
	} {
		wantCode(t, fmt.Sprintf("NewTree of %v", c.keys), impl.NewTree(c.keys), c.code)
	}
}

type faultyTree struct {
	name string
	tree impl.Tree
	code int64
}

// baseTree: root in place 3, two inner nodes and four leaves.
func baseTree() impl.Tree {
	return treeOf(3, leafOf(1, 5), nodeOf(10, 0, 2), leafOf(10, 12), nodeOf(20, 1, 5), leafOf(), nodeOf(30, 6, 4), leafOf(20, 25, 29))
}

// turnedTree is the base tree, with one thing turned.
func turnedTree(turn func(t *impl.Tree)) impl.Tree {
	t := baseTree()
	turn(&t)
	return t
}

func turnedNode(place int, node impl.Node) impl.Tree {
	return turnedTree(func(t *impl.Tree) { t.Nodes[place] = node })
}

// nodesInRow has so many nodes, of which each but the last two has the next one as its last kid.
func nodesInRow(count int) impl.Tree {
	var t impl.Tree
	for i := range int64(count) {
		t.Nodes = append(t.Nodes, nodeOf(100+i, min(i+1, int64(count)-1), min(i+1, int64(count)-1)))
	}
	t.Nodes[count-1] = leafOf()
	return t
}

func countFaults() []faultyTree {
	d := dice(47)
	most := fullTree(0, mostNodes, &d)
	more := copyTree(most)
	more.Nodes = append(more.Nodes, leafOf())
	worse := copyTree(more)
	worse.Nodes[0], worse.Root = leafOf(1, 2, 3, -1), -1
	out := []faultyTree{
		{"60 nodes", most, impl.OK}, {"61 nodes", more, impl.ErrMany}, {"61 nodes and faults", worse, impl.ErrMany},
		{"61 empty nodes", impl.Tree{Nodes: make([]impl.Node, 61)}, impl.ErrMany}, {"very many nodes", impl.Tree{Nodes: make([]impl.Node, 1<<16)}, impl.ErrMany},
		{"60 empty nodes", impl.Tree{Nodes: make([]impl.Node, 60)}, impl.ErrForm},
	}
	e := leafOf()
	out = append(out, // nothing but how many there are is wrong here
		faultyTree{"three Keys and four Kids", treeOf(0, nodeOf(1, 2, 3, 1, 2, 3, 4), e, e, e, e), impl.OK},
		faultyTree{"four Keys and five Kids", treeOf(0, nodeOf(1, 2, 3, 4, 1, 2, 3, 4, 5), e, e, e, e, e), impl.ErrForm},
		faultyTree{"no Keys and one Kid", treeOf(0, nodeOf(1), e), impl.ErrForm},
		faultyTree{"a Key and one Kid", treeOf(0, impl.Node{Keys: []int64{5}, Kids: []int64{1}}, e), impl.ErrForm},
		faultyTree{"a Key and three Kids", treeOf(0, impl.Node{Keys: []int64{5}, Kids: []int64{1, 2, 3}}, e, e, e), impl.ErrForm},
		faultyTree{"a leaf alone with three Keys", treeOf(0, leafOf(1, 2, 3)), impl.OK},
		faultyTree{"a leaf alone with four Keys", treeOf(0, leafOf(1, 2, 3, 4)), impl.ErrForm},
		faultyTree{"a leaf with a leaf as its kid", treeOf(0, impl.Node{Leaf: true, Kids: []int64{1}}, e), impl.ErrForm})
	for _, root := range []int64{0, 1, -1, math.MinInt64, math.MaxInt64} {
		out = append(out, faultyTree{"no nodes", treeOf(root), impl.ErrMany}, faultyTree{"an empty list", impl.Tree{Root: root, Nodes: []impl.Node{}}, impl.ErrMany})
	}
	for place, n := range baseTree().Nodes {
		for _, c := range []struct {
			name string
			node impl.Node
		}{
			{"no Keys and no Kids", impl.Node{}}, {"a Key and no Kids", impl.Node{Keys: []int64{15}}}, {"no Keys and a Kid", impl.Node{Kids: []int64{0}}},
			{"a Kid too few", impl.Node{Keys: []int64{15}, Kids: []int64{0}}}, {"a Kid too many", impl.Node{Keys: []int64{15}, Kids: []int64{0, 2, 4}}},
			{"three Keys, a Kid too few", nodeOf(15, 16, 17, 0, 2, 4)}, {"three Keys, a Kid too many", impl.Node{Keys: []int64{15, 16, 17}, Kids: []int64{0, 1, 2, 4, 6}}},
			{"four Keys and five Kids", impl.Node{Keys: []int64{15, 16, 17, 18}, Kids: []int64{0, 1, 2, 4, 6}}},
			{"a leaf with four Keys", leafOf(15, 16, 17, 18)}, {"a leaf with very many", impl.Node{Leaf: true, Keys: make([]int64, 1<<16)}},
			{"a leaf with a Kid", impl.Node{Leaf: true, Keys: n.Keys, Kids: []int64{0}}}, {"a leaf with Kids", impl.Node{Leaf: true, Keys: []int64{15}, Kids: []int64{0, 2}}},
			{"an empty leaf with a Kid", impl.Node{Leaf: true, Kids: []int64{0}}},
			{"too many Keys, out of bounds", leafOf(-1, 16, 17, 10001)}, {"a leaf with a Kid that is no place", impl.Node{Leaf: true, Kids: []int64{-1}}},
			{"too few Kids, no places", impl.Node{Keys: []int64{10001}, Kids: []int64{7}}},
		} {
			out = append(out, faultyTree{fmt.Sprintf("%s in place %d", c.name, place), turnedNode(place, c.node), impl.ErrForm})
		}
	}
	return out
}

func numberFaults() []faultyTree {
	var out []faultyTree
	add := func(name string, tree impl.Tree, code int64) { out = append(out, faultyTree{name, tree, code}) }
	for _, wrong := range []int64{-1, 10001, math.MinInt64, math.MaxInt64} {
		for place, n := range baseTree().Nodes {
			for k := range n.Keys {
				add(fmt.Sprintf("Key %d of node %d is %d", k, place, wrong), turnedTree(func(t *impl.Tree) { t.Nodes[place].Keys[k] = wrong }), impl.ErrRange)
			}
		}
		for _, node := range []impl.Node{leafOf(wrong), leafOf(5, wrong), leafOf(5, 4, wrong), leafOf(wrong, wrong), nodeOf(5, 5, wrong, 0, 0, 0, 0)} {
			add(fmt.Sprintf("a Key %d", wrong), turnedNode(0, node), impl.ErrRange)
		}
	}
	for _, wrong := range []int64{-1, 7, math.MinInt64, math.MaxInt64} {
		for place, n := range baseTree().Nodes {
			for k := range n.Kids {
				add(fmt.Sprintf("Kid %d of node %d is %d", k, place, wrong), turnedTree(func(t *impl.Tree) { t.Nodes[place].Kids[k] = wrong }), impl.ErrRange)
			}
		}
		add(fmt.Sprintf("a Kid %d and Keys that fall", wrong), turnedNode(1, nodeOf(5, 4, 0, 2, wrong)), impl.ErrRange)
		add(fmt.Sprintf("Root is %d", wrong), turnedTree(func(t *impl.Tree) { t.Root = wrong }), impl.ErrRange)
		add(fmt.Sprintf("Root is %d, and a node is got to twice", wrong), turnedTree(func(t *impl.Tree) { t.Root, t.Nodes[1].Kids[0] = wrong, 2 }), impl.ErrRange)
		add(fmt.Sprintf("Root is %d, and a key out of its bounds", wrong), turnedTree(func(t *impl.Tree) { t.Root, t.Nodes[0].Keys[0] = wrong, 50 }), impl.ErrForm)
		add(fmt.Sprintf("Root is %d, and a node has too many Keys", wrong), turnedTree(func(t *impl.Tree) { t.Root, t.Nodes[6] = wrong, leafOf(20, 21, 22, 23) }), impl.ErrForm)
	}
	for _, wrong := range []int64{-1, 1, math.MinInt64, math.MaxInt64} {
		add(fmt.Sprintf("one leaf, Root %d", wrong), treeOf(wrong, leafOf(5)), impl.ErrRange)
	}
	for _, node := range []impl.Node{leafOf(5, 5), leafOf(5, 4), leafOf(4, 5, 5), leafOf(4, 5, 3), leafOf(5, 4, 6), leafOf(0, 0), leafOf(highestKey, 0)} {
		add(fmt.Sprintf("Keys %v", node.Keys), turnedNode(0, node), impl.ErrForm)
		add(fmt.Sprintf("Keys %v alone", node.Keys), treeOf(0, node), impl.ErrForm)
	}
	add("inner Keys that are alike", treeOf(0, nodeOf(5, 5, 1, 2, 3), leafOf(), leafOf(), leafOf()), impl.ErrForm)
	add("inner Keys that fall", treeOf(0, nodeOf(5, 4, 1, 2, 3), leafOf(), leafOf(), leafOf()), impl.ErrForm)
	return out
}

// Node by node: whatever the first node has comes ahead of what the next ones have.
func orderFaults() []faultyTree {
	var out []faultyTree
	for _, first := range []int{0, 1, 3, 5} {
		for place := first + 1; place < 7; place++ {
			two := func(a, b impl.Node) impl.Tree {
				return turnedTree(func(t *impl.Tree) { t.Nodes[first], t.Nodes[place], t.Root = a, b, -1 })
			}
			for _, c := range []struct {
				name string
				node impl.Node
				code int64
			}{
				{"too many Keys", leafOf(1, 2, 3, 4), impl.ErrForm}, {"no Kids", impl.Node{Keys: []int64{4}}, impl.ErrForm},
				{"a Key too great", leafOf(10001), impl.ErrRange}, {"a Kid that is no place", nodeOf(15, 0, 7), impl.ErrRange}, {"Keys that fall", leafOf(2, 1), impl.ErrForm},
			} {
				for _, other := range []impl.Node{leafOf(1, 2, 3, 4), leafOf(-1), nodeOf(15, -1, 0), leafOf(3, 3), {}} {
					out = append(out, faultyTree{fmt.Sprintf("%s in place %d, and %+v in place %d", c.name, first, other, place), two(c.node, other), c.code})
				}
			}
		}
	}
	return out
}

func wayFaults() []faultyTree {
	var out []faultyTree
	add := func(name string, tree impl.Tree, code int64) { out = append(out, faultyTree{name, tree, code}) }
	turn := func(name string, turn func(t *impl.Tree)) { add(name, turnedTree(turn), impl.ErrForm) }
	for place, n := range baseTree().Nodes {
		for k, kid := range n.Kids {
			for other := range int64(7) {
				if other != kid {
					turn(fmt.Sprintf("Kid %d of node %d is %d", k, place, other), func(t *impl.Tree) { t.Nodes[place].Kids[k] = other })
				}
			}
		}
		if int64(place) != baseTree().Root {
			turn(fmt.Sprintf("Root is %d", place), func(t *impl.Tree) { t.Root = int64(place) })
		}
	}
	turn("kids that go round aside", func(t *impl.Tree) { t.Nodes = append(t.Nodes, nodeOf(5, 8, 9), nodeOf(5, 7, 10), leafOf(), leafOf()) })
	turn("its own kid aside", func(t *impl.Tree) { t.Nodes = append(t.Nodes, nodeOf(5, 7, 8), leafOf()) })
	turn("a leaf aside", func(t *impl.Tree) { t.Nodes = append(t.Nodes, leafOf()) })
	turn("a tree aside", func(t *impl.Tree) { t.Nodes = append(t.Nodes, nodeOf(5, 8, 9), leafOf(), leafOf()) })
	add("its own kid alone", treeOf(0, nodeOf(5, 0, 0)), impl.ErrForm)
	add("its own kid and a leaf", treeOf(0, nodeOf(5, 0, 1), leafOf()), impl.ErrForm)
	add("a leaf and its own kid", treeOf(0, nodeOf(5, 1, 0), leafOf()), impl.ErrForm)
	add("one leaf as both kids", treeOf(0, nodeOf(5, 1, 1), leafOf()), impl.ErrForm)
	add("kids of each other", treeOf(0, nodeOf(5, 1, 2), nodeOf(2, 0, 3), leafOf(), leafOf()), impl.ErrForm)
	for _, count := range []int{3, 30, mostNodes} {
		row := nodesInRow(count)
		add(fmt.Sprintf("%d nodes, each twice the kid of the one ahead", count), row, impl.ErrForm)
		round := copyTree(row)
		round.Nodes[count-1] = nodeOf(9, 0, 0)
		add(fmt.Sprintf("%d nodes that go round", count), round, impl.ErrForm)
	}
	two := treeOf(0, nodeOf(10, 1, 2), leafOf(1), nodeOf(20, 3, 4), leafOf(10), leafOf(20))
	add("leaves in two depths", two, impl.ErrForm)
	two.Nodes[1], two.Nodes[2] = nodeOf(5, 3, 4), leafOf(10)
	two.Nodes[3], two.Nodes[4] = leafOf(), leafOf(5)
	add("the last leaf less deep", two, impl.ErrForm)
	three := treeOf(0, nodeOf(10, 20, 1, 2, 3), leafOf(), nodeOf(15, 4, 5), leafOf(), leafOf(), leafOf())
	add("the leaves between deeper", three, impl.ErrForm)
	return out
}

// A key below, at and above each of its bounds.
func boundFaults() []faultyTree {
	var out []faultyTree
	add := func(name string, tree impl.Tree, code int64) { out = append(out, faultyTree{name, tree, code}) }
	for _, c := range []struct {
		place     int
		low, high int64
	}{{0, 0, 9}, {2, 10, 19}, {6, 20, 29}, {4, 30, highestKey}} {
		for _, key := range []int64{c.low - 1, c.low, c.low + 1, c.high - 1, c.high, c.high + 1} {
			code := int64(impl.OK)
			if key < c.low || key > c.high {
				code = impl.ErrForm
			}
			if key < 0 || key > highestKey {
				code = impl.ErrRange
			}
			add(fmt.Sprintf("key %d in leaf %d", key, c.place), turnedNode(c.place, leafOf(key)), code)
			if key > c.low+1 {
				add(fmt.Sprintf("key %d behind another in leaf %d", key, c.place), turnedNode(c.place, leafOf(c.low, c.low+1, key)), code)
			}
			if key < c.high-1 {
				add(fmt.Sprintf("key %d ahead of another in leaf %d", key, c.place), turnedNode(c.place, leafOf(key, c.high-1, c.high)), code)
			}
		}
	}
	bare := func(left, right int64) impl.Tree {
		return turnedTree(func(t *impl.Tree) {
			t.Nodes[1].Keys[0], t.Nodes[5].Keys[0] = left, right
			t.Nodes[0], t.Nodes[2], t.Nodes[4], t.Nodes[6] = leafOf(), leafOf(), leafOf(), leafOf()
		})
	}
	for _, c := range []struct{ left, right, code int64 }{
		{0, 20, impl.OK}, {19, 20, impl.OK}, {0, highestKey, impl.OK}, {20, 20, impl.ErrForm}, {21, 20, impl.ErrForm}, {19, 19, impl.ErrForm}, {19, 18, impl.ErrForm},
		{highestKey, 20, impl.ErrForm}, {0, 0, impl.ErrForm}, {-1, 20, impl.ErrRange}, {0, 10001, impl.ErrRange},
	} {
		add(fmt.Sprintf("inner Keys %d, %d", c.left, c.right), bare(c.left, c.right), c.code)
	}
	// The bounds of all nodes above hold, not those of the one above alone.
	for _, key := range []int64{9, 10, 19, 20} {
		deep := treeOf(0, nodeOf(10, 20, 1, 2, 3), nodeOf(5, 4, 5), nodeOf(15, 6, 7), nodeOf(25, 8, 9), leafOf(), leafOf(), leafOf(), leafOf(), leafOf(), leafOf())
		code := map[bool]int64{true: impl.OK, false: impl.ErrForm}
		for place, fits := range map[int64]bool{5: key < 10, 6: key == 10, 7: key == 19, 8: key >= 20} {
			tree := copyTree(deep)
			tree.Nodes[place] = leafOf(key)
			add(fmt.Sprintf("key %d in leaf %d of three inner nodes", key, place), tree, code[fits])
		}
	}
	return out
}

func treeFaults() []faultyTree {
	return slices.Concat(countFaults(), numberFaults(), orderFaults(), wayFaults(), boundFaults())
}

func TestTreeFault(t *testing.T) {
	met := map[int64]int{}
	for _, f := range treeFaults() {
		met[f.code]++
		if got, by := impl.TreeFault(f.tree), treeFaultByHand(f.tree); got != f.code || by != f.code {
			t.Errorf("%s: TreeFault = %d, by hand %d, want %d", f.name, got, by, f.code)
		}
	}
	if len(met) != 4 {
		t.Errorf("not all codes were met: %v", met)
	}
	for n, tree := range append(someTrees(), baseTree()) {
		if got, by := impl.TreeFault(tree), treeFaultByHand(tree); got != impl.OK || by != impl.OK {
			t.Errorf("tree %d: TreeFault of %+v = %d, by hand %d", n, tree, got, by)
		}
	}
}

// A tree's own fault comes ahead of whatever else is wrong.
func TestTreeFaultComesFirst(t *testing.T) {
	for _, f := range treeFaults() {
		if f.code != impl.OK {
			checkFaultFirst(t, f)
		}
	}
}

func checkFaultFirst(t *testing.T, f faultyTree) {
	t.Helper()
	for _, key := range []int64{1, 5, 20, 0, highestKey, -1, 10001, math.MinInt64, math.MaxInt64} {
		if impl.HasKey(f.tree, key) {
			t.Errorf("%s: HasKey %d", f.name, key)
		}
		wantCode(t, f.name+": AddKey", impl.AddKey(f.tree, key), f.code)
		wantCode(t, f.name+": CutKey", impl.CutKey(f.tree, key), f.code)
		wantCode(t, f.name+": PathTo", impl.PathTo(f.tree, key), f.code)
		wantCode(t, f.name+": KeysIn", impl.KeysIn(f.tree, key, 5), f.code)
		wantCode(t, f.name+": KeysIn", impl.KeysIn(f.tree, 5, key), f.code)
	}
	wantCode(t, f.name+": DepthOf", impl.DepthOf(f.tree), f.code)
}

func TestWrongKeysOfTrees(t *testing.T) {
	for n, tree := range someTrees() {
		for _, key := range []int64{-1, 10001, math.MinInt64, math.MaxInt64} {
			name := fmt.Sprintf("tree %d, key %d: ", n, key)
			if impl.HasKey(tree, key) {
				t.Errorf("%sHasKey", name)
			}
			wantCode(t, name+"AddKey", impl.AddKey(tree, key), impl.ErrRange)
			wantCode(t, name+"CutKey", impl.CutKey(tree, key), impl.ErrRange)
			wantCode(t, name+"PathTo", impl.PathTo(tree, key), impl.ErrRange)
		}
		for _, key := range []int64{0, highestKey} {
			wantCode(t, fmt.Sprintf("tree %d: PathTo %d", n, key), impl.PathTo(tree, key), impl.OK)
		}
	}
}

// thrownTurn turns one thing of a tree, so that it often has a fault.
func thrownTurn(t impl.Tree, d *dice) impl.Tree {
	t = copyTree(t)
	count := int64(len(t.Nodes))
	n := &t.Nodes[d.upTo(count-1)]
	number := []int64{-1, 0, 1, count - 1, count, highestKey, 10001, d.upTo(count), d.upTo(highestKey)}[d.upTo(8)]
	turns := []func(){
		func() { t.Root = number },
		func() { n.Leaf = !n.Leaf },
		func() { n.Keys = append(n.Keys, number) },
		func() { n.Kids = append(n.Kids, number) },
		func() { n.Keys = n.Keys[:max(len(n.Keys)-1, 0)] },
		func() { n.Kids = n.Kids[:max(len(n.Kids)-1, 0)] },
		func() { t.Nodes = t.Nodes[:count-1] },
		func() { t.Nodes = append(t.Nodes, leafOf()) },
		func() {
			for i := range n.Keys {
				n.Keys[i] += d.upTo(4) - 2
			}
		},
		func() {
			if len(n.Kids) > 0 {
				n.Kids[d.upTo(int64(len(n.Kids)-1))] = d.upTo(count - 1)
			}
		},
		func() {
			if len(n.Keys) > 0 {
				n.Keys[d.upTo(int64(len(n.Keys)-1))] = number
			}
		},
		func() { slices.Reverse(n.Kids) },
	}
	turns[d.upTo(int64(len(turns)-1))]()
	return t
}

func TestTreesThatWereTurned(t *testing.T) {
	d := dice(48)
	trees := someTrees()
	met := map[int64]int{}
	for range 20000 {
		tree := thrownTurn(trees[d.upTo(int64(len(trees)-1))], &d)
		if len(tree.Nodes) > 0 && d.upTo(2) == 0 {
			tree = thrownTurn(tree, &d)
		}
		want := treeFaultByHand(tree)
		met[want]++
		if got := impl.TreeFault(tree); got != want {
			t.Fatalf("TreeFault(%+v) = %d, want %d", tree, got, want)
		}
		if want != impl.OK {
			continue
		}
		key := d.upTo(highestKey)
		has := slices.Contains(keysByHand(tree, key, key), key)
		added := impl.AddKey(tree, key)
		if by := addByHand(tree, key); !has && len(by.Nodes) <= mostNodes && !sameTree(added.Tree, by) || has && added.Code != impl.ErrTaken {
			t.Fatalf("AddKey(%+v, %d) = %+v", tree, key, added)
		}
		if got := impl.KeysIn(tree, key/2, key); !slices.Equal(got.List, keysByHand(tree, key/2, key)) {
			t.Fatalf("KeysIn(%+v, %d, %d) = %+v", tree, key/2, key, got)
		}
	}
	for _, code := range []int64{impl.OK, impl.ErrForm, impl.ErrMany, impl.ErrRange} {
		if met[code] < 20 {
			t.Errorf("code %d was met only %d times", code, met[code])
		}
	}
}

// treeWithRoom lays each list ahead of room that is not its own to be written.
func treeWithRoom(t impl.Tree) impl.Tree {
	out := impl.Tree{Root: t.Root, Nodes: make([]impl.Node, 0, len(t.Nodes)+3)}
	for _, n := range t.Nodes {
		out.Nodes = append(out.Nodes, impl.Node{
			Leaf: n.Leaf,
			Keys: append(make([]int64, 0, len(n.Keys)+3), n.Keys...),
			Kids: append(make([]int64, 0, len(n.Kids)+3), n.Kids...),
		})
	}
	return out
}

func treeRoom(t impl.Tree) string {
	var b []byte
	b = fmt.Append(b, t.Root)
	for _, n := range t.Nodes[:cap(t.Nodes)] {
		b = fmt.Appendf(b, "%t %v %v;", n.Leaf, wholeRoom(n.Keys), wholeRoom(n.Kids))
	}
	return string(b)
}

func askTree(t impl.Tree, key, high int64) {
	impl.TreeFault(t)
	impl.HasKey(t, key)
	impl.AddKey(t, key)
	impl.CutKey(t, key)
	impl.KeysIn(t, key, high)
	impl.DepthOf(t)
	impl.PathTo(t, key)
}

// soundAndFaulty leaves out the trees whose many nodes would only take time.
func soundAndFaulty() []impl.Tree {
	out := someTrees()
	for _, f := range treeFaults() {
		if len(f.tree.Nodes) < 100 {
			out = append(out, f.tree)
		}
	}
	return out
}

func TestTreeArgumentsStay(t *testing.T) {
	for n, tree := range soundAndFaulty() {
		with := treeWithRoom(tree)
		before := treeRoom(with)
		for _, key := range append(keysNear(tree)[:4], 0, 5, highestKey, -1) {
			askTree(with, key, highestKey)
		}
		for _, key := range keysByHand(tree, 0, highestKey) {
			askTree(with, key, key)
			askTree(with, key+1, key)
		}
		if treeRoom(with) != before || !sameTree(with, tree) {
			t.Errorf("tree %d was changed", n)
		}
	}
	for _, order := range keyOrders() {
		keys := append(make([]int64, 0, 50), order...)
		before := wholeRoom(keys)
		impl.NewTree(keys)
		impl.NewTree(keys[:7])
		impl.NewTree(append(keys[:20:20], keys...))
		if !slices.Equal(wholeRoom(keys), before) {
			t.Errorf("keys were %v, and are %v", before, keys)
		}
	}
}

// Lists of one tree may be pieces of one list: what is written behind one of them would be seen in the next.
func TestTreeOfPiecesStays(t *testing.T) {
	keys := []int64{1, 2, 3, 11, 12, 13, 21, 22, 23, 10, 20}
	kids := []int64{1, 2, 3}
	tree := treeOf(0, impl.Node{Keys: keys[9:], Kids: kids}, leafOf(keys[:3]...), leafOf(keys[3:6]...), leafOf(keys[6:9]...))
	before := copyTree(tree)
	for key := range int64(30) {
		askTree(tree, key, 25)
		if !sameTree(tree, before) {
			t.Fatalf("key %d changed the tree to %+v", key, tree)
		}
	}
}

// treeAnswers: each tree that is answered of one.
func treeAnswers(t impl.Tree) []impl.Tree {
	keys := keysByHand(t, 0, highestKey)
	var out []impl.Tree
	for _, key := range keysNear(t) {
		if slices.Contains(keys, key) {
			out = append(out, impl.CutKey(t, key).Tree)
		} else {
			out = append(out, impl.AddKey(t, key).Tree)
		}
	}
	if len(keys) <= 40 {
		out = append(out, impl.NewTree(keys).Tree)
	}
	return out
}

func numberLists(t impl.Tree) [][]int64 {
	var out [][]int64
	for _, n := range t.Nodes {
		out = append(out, n.Keys, n.Kids)
	}
	return out
}

// checkOwnLists: each list is spoilt in its own way with all the room behind it, and must stay so.
func checkOwnLists(t *testing.T, name string, tree impl.Tree) {
	t.Helper()
	lists := numberLists(tree)
	for i, list := range lists {
		spoil(list, -100-int64(i))
	}
	for i, list := range lists {
		if slices.ContainsFunc(list[:cap(list)], func(number int64) bool { return number != -100-int64(i) }) {
			t.Errorf("%s: lists of one answer share memory", name)
			return
		}
	}
	spoil(tree.Nodes, impl.Node{Keys: []int64{-1}})
}

func TestTreeAnswersAreNewMemory(t *testing.T) {
	for n, tree := range someTrees() {
		if n%4 > 0 {
			continue
		}
		before := copyTree(tree)
		spoilt, other := treeAnswers(tree), treeAnswers(tree)
		var want []impl.Tree
		for _, answer := range other {
			want = append(want, copyTree(answer))
		}
		for a, answer := range spoilt {
			checkOwnLists(t, fmt.Sprintf("tree %d, answer %d", n, a), answer)
		}
		for a := range other {
			if !sameTree(other[a], want[a]) {
				t.Errorf("tree %d: answer %d shares memory with another answer", n, a)
			}
		}
		if !sameTree(tree, before) {
			t.Errorf("tree %d: an answer shares memory with its argument", n)
		}
	}
	for n, order := range keyOrders() {
		before := slices.Clone(order)
		checkOwnLists(t, fmt.Sprintf("NewTree of order %d", n), impl.NewTree(order).Tree)
		checkOwnLists(t, fmt.Sprintf("NewTree of one key of order %d", n), impl.NewTree(order[:1]).Tree)
		if !slices.Equal(order, before) || !sameTree(impl.NewTree(order[:1]).Tree, treeOf(0, leafOf(order[0]))) {
			t.Errorf("NewTree of order %d shares memory", n)
		}
	}
}

func TestTreeListsAreNewMemory(t *testing.T) {
	for n, tree := range someTrees() {
		before := copyTree(tree)
		for _, key := range []int64{0, 5000, highestKey} {
			a, b := impl.PathTo(tree, key), impl.PathTo(tree, key)
			c, d := impl.KeysIn(tree, 0, key), impl.KeysIn(tree, 0, key)
			spoil(a.List, -5)
			spoil(c.List, -5)
			if !slices.Equal(b.List, pathByHand(before, key)) || !slices.Equal(d.List, keysByHand(before, 0, key)) || !sameTree(tree, before) {
				t.Fatalf("tree %d: its lists share memory", n)
			}
		}
	}
}

// What is spoilt in an argument behind a call is not seen in its answer.
func TestTreeAnswersOutliveArguments(t *testing.T) {
	for n, tree := range someTrees() {
		if n%4 > 0 {
			continue
		}
		with := treeWithRoom(tree)
		answers := treeAnswers(with)
		path, keys := impl.PathTo(with, 0), impl.KeysIn(with, 0, highestKey)
		var want []impl.Tree
		for _, answer := range answers {
			want = append(want, copyTree(answer))
		}
		for _, list := range numberLists(with) {
			spoil(list, -7)
		}
		spoil(with.Nodes, impl.Node{})
		for a := range answers {
			if !sameTree(answers[a], want[a]) {
				t.Errorf("tree %d: answer %d shares memory with its argument", n, a)
			}
		}
		if !slices.Equal(path.List, pathByHand(tree, 0)) || !slices.Equal(keys.List, keysByHand(tree, 0, highestKey)) {
			t.Errorf("tree %d: its lists share memory with it", n)
		}
	}
	keys := []int64{3, 1, 2}
	got := impl.NewTree(keys)
	spoil(keys, -7)
	if !sameTree(got.Tree, treeOf(0, leafOf(1, 2, 3))) {
		t.Errorf("NewTree shares memory with its keys: %+v", got)
	}
}

// withEmpties has an empty list wherever a tree has nil.
func withEmpties(t impl.Tree) impl.Tree {
	t = copyTree(t)
	for i := range t.Nodes {
		n := &t.Nodes[i]
		n.Keys, n.Kids = append([]int64{}, n.Keys...), append([]int64{}, n.Kids...)
	}
	return t
}

func withNils(t impl.Tree) impl.Tree {
	t = copyTree(t)
	for i := range t.Nodes {
		n := &t.Nodes[i]
		n.Keys, n.Kids = append([]int64(nil), n.Keys...), append([]int64(nil), n.Kids...)
	}
	return t
}

func tellTree(t impl.Tree, key int64) string {
	return fmt.Sprint(impl.TreeFault(t), impl.HasKey(t, key), impl.AddKey(t, key), impl.CutKey(t, key), impl.KeysIn(t, 0, key), impl.DepthOf(t), impl.PathTo(t, key))
}

func TestNilAndEmptyTreesAreAlike(t *testing.T) {
	for n, tree := range soundAndFaulty() {
		nils, empties := withNils(tree), withEmpties(tree)
		for _, key := range append(keysNear(tree)[:4], -1, highestKey) {
			if a, b := tellTree(nils, key), tellTree(empties, key); a != b {
				t.Errorf("tree %d, key %d: with nil %s, with empty lists %s", n, key, a, b)
			}
		}
	}
}

func TestTreesKeepNothing(t *testing.T) {
	wantSameAgain(t, someTrees(), func(tree impl.Tree) string { return tellTree(tree, 250) + tellTree(tree, -1) })
	wantSameAgain(t, keyOrders(), func(keys []int64) string {
		return fmt.Sprint(impl.NewTree(keys), impl.NewTree(append(keys[:5:5], keys[0])))
	})
}

// Whatever the Kids name: every call ends.
func TestTreesNeverPanic(t *testing.T) {
	numbers := []int64{math.MinInt64, -1, 0, 1, 2, 3, 4, 5, 10, 59, 60, 9999, 10000, 10001, math.MaxInt64}
	d := dice(49)
	pick := func() int64 { return numbers[d.upTo(int64(len(numbers)-1))] }
	for range 20000 {
		count := d.upTo(7)
		tree := impl.Tree{Root: d.upTo(7)}
		for range count {
			n := impl.Node{Leaf: d.upTo(1) == 0}
			for range d.upTo(3) {
				n.Keys = append(n.Keys, 10*d.upTo(20)*d.upTo(1)+10*int64(len(n.Keys)))
			}
			for range (len(n.Keys) + 1) * int(d.upTo(1)) {
				n.Kids = append(n.Kids, d.upTo(count))
			}
			if d.upTo(9) == 0 {
				n.Keys, n.Kids = append(n.Keys, pick()), append(n.Kids, pick())
			}
			tree.Nodes = append(tree.Nodes, n)
		}
		if d.upTo(9) == 0 {
			tree.Root = pick()
		}
		mustPanicNever(t, fmt.Sprintf("%+v", tree), func() {
			askTree(tree, pick(), pick())
			askTree(tree, d.upTo(30), pick())
			impl.NewTree([]int64{pick(), pick(), pick()})
		})
	}
}
