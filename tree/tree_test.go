package tree_test

import (
	"math"
	"math/rand"
	"slices"
	"testing"

	"clapboard/api"
	"clapboard/tree"
)

// entry of a model: a node and its depth.
type entry struct {
	n, depth int
}

// model of a tree: its nodes in preorder, which with their depths tell everything else.
type model struct {
	l    []entry
	next int
}

func newModel() *model {
	return &model{l: []entry{{0, 0}}, next: 1}
}

func (m *model) copy() *model {
	return &model{slices.Clone(m.l), m.next}
}

// find: the index of a node, or -1.
func (m *model) find(n int) int {
	return slices.IndexFunc(m.l, func(x entry) bool { return x.n == n })
}

// end of the node at an index and all below it.
func (m *model) end(i int) int {
	end := i + 1
	for end < len(m.l) && m.l[end].depth > m.l[i].depth {
		end++
	}
	return end
}

func (m *model) kids(n int) []int {
	var l []int
	if i := m.find(n); i >= 0 {
		for _, x := range m.l[i:m.end(i)] {
			if x.depth == m.l[i].depth+1 {
				l = append(l, x.n)
			}
		}
	}
	return l
}

func (m *model) parent(n int) (int, bool) {
	i := m.find(n)
	for j := i - 1; j >= 0; j-- {
		if m.l[j].depth < m.l[i].depth {
			return m.l[j].n, true
		}
	}
	return 0, false
}

// place: where a child of parent with the index at begins, if it is put there.
func (m *model) place(parent, at int) int {
	kids := m.kids(parent)
	if at < len(kids) {
		return m.find(kids[at])
	}
	return m.end(m.find(parent))
}

func (m *model) add(parent, at int) (int, api.Errno) {
	i := m.find(parent)
	switch {
	case i < 0:
		return 0, api.ErrNone
	case at < 0 || at > len(m.kids(parent)):
		return 0, api.ErrRange
	case len(m.l) == 1024:
		return 0, api.ErrCount
	case m.l[i].depth == 64:
		return 0, api.ErrDepth
	}
	m.l = slices.Insert(m.l, m.place(parent, at), entry{m.next, m.l[i].depth + 1})
	m.next++
	return m.next - 1, api.OK
}

func (m *model) drop(n int) api.Errno {
	i := m.find(n)
	switch {
	case n == 0:
		return api.ErrArg
	case i < 0:
		return api.ErrNone
	}
	m.l = slices.Delete(m.l, i, m.end(i))
	return api.OK
}

func (m *model) move(n, parent, at int) api.Errno {
	i, p := m.find(n), m.find(parent)
	switch {
	case n == 0:
		return api.ErrArg
	case i < 0 || p < 0:
		return api.ErrNone
	case i <= p && p < m.end(i):
		return api.ErrShape
	}
	part := slices.Clone(m.l[i:m.end(i)])
	deeper := m.l[p].depth + 1 - m.l[i].depth
	rest := &model{l: slices.Delete(slices.Clone(m.l), i, m.end(i))}
	if at < 0 || at > len(rest.kids(parent)) {
		return api.ErrRange
	}
	for j := range part {
		part[j].depth += deeper
		if part[j].depth > 64 {
			return api.ErrDepth
		}
	}
	m.l = slices.Insert(rest.l, rest.place(parent, at), part...)
	return api.OK
}

func (m *model) check(t *testing.T, x *tree.Tree) {
	t.Helper()
	var order []int
	for _, e := range m.l {
		order = append(order, e.n)
	}
	if got := x.Order(); !slices.Equal(got, order) || x.Len() != len(order) {
		t.Fatalf("order %v, %d, not %v", got, x.Len(), order)
	}
	for n := -2; n < m.next+2; n++ {
		m.checkNode(t, x, n)
	}
	m.checkNode(t, x, math.MinInt)
	m.checkNode(t, x, math.MaxInt)
}

func (m *model) checkNode(t *testing.T, x *tree.Tree, n int) {
	t.Helper()
	i, depth := m.find(n), 0
	if i >= 0 {
		depth = m.l[i].depth
	}
	if x.Has(n) != (i >= 0) || x.Depth(n) != depth {
		t.Fatalf("node %d: %v, depth %d, not %v, %d", n, x.Has(n), x.Depth(n), i >= 0, depth)
	}
	want, wantOK := m.parent(n)
	if got, ok := x.Parent(n); got != want || ok != wantOK {
		t.Fatalf("parent of %d: %d, %v, not %d, %v", n, got, ok, want, wantOK)
	}
	if got := x.Kids(n); !slices.Equal(got, m.kids(n)) {
		t.Fatalf("children of %d: %v, not %v", n, got, m.kids(n))
	}
}

// add what can be added.
func add(t *testing.T, x *tree.Tree, parent, at int) int {
	t.Helper()
	n, e := x.Add(parent, at)
	if e != api.OK {
		t.Fatalf("Add(%d, %d): %d", parent, at, e)
	}
	return n
}

// chain of so many nodes below a node: the last one.
func chain(t *testing.T, x *tree.Tree, n, long int) int {
	t.Helper()
	for range long {
		n = add(t, x, n, 0)
	}
	return n
}

// small: 0 has 1, 2 and 3; 1 has 4 and 5; 4 has 6.
func small(t *testing.T) *tree.Tree {
	t.Helper()
	x := tree.New()
	for i, parent := range []int{0, 0, 0, 1, 1, 4} {
		if n := add(t, x, parent, len(x.Kids(parent))); n != i+1 {
			t.Fatalf("the number %d, not %d", n, i+1)
		}
	}
	checkOrder(t, x, 0, 1, 4, 6, 5, 2, 3)
	return x
}

// full: as many nodes as permitted, of which the last are one below another, as deep as permitted. The last one.
func full(t *testing.T) (*tree.Tree, int) {
	t.Helper()
	x := tree.New()
	for range api.MaxNodes - 1 - api.MaxDepth {
		add(t, x, 0, 0)
	}
	last := chain(t, x, 0, api.MaxDepth)
	if x.Len() != api.MaxNodes || x.Depth(last) != api.MaxDepth {
		t.Fatalf("%d nodes, depth %d", x.Len(), x.Depth(last))
	}
	return x, last
}

func checkOrder(t *testing.T, x *tree.Tree, want ...int) {
	t.Helper()
	if got := x.Order(); !slices.Equal(got, want) || x.Len() != len(want) {
		t.Errorf("order %v, %d, not %v", got, x.Len(), want)
	}
}

// checkAdd, checkDrop and checkMove hold an answer against that of the document; with an error the tree stays.

func checkAdd(t *testing.T, x *tree.Tree, parent, at, n int, e api.Errno) {
	t.Helper()
	before := x.Order()
	if got, gotE := x.Add(parent, at); got != n || gotE != e {
		t.Errorf("Add(%d, %d): %d, %d, not %d, %d", parent, at, got, gotE, n, e)
	}
	checkStays(t, x, before, e)
}

func checkDrop(t *testing.T, x *tree.Tree, n int, e api.Errno) {
	t.Helper()
	before := x.Order()
	if got := x.Drop(n); got != e {
		t.Errorf("Drop(%d): %d, not %d", n, got, e)
	}
	checkStays(t, x, before, e)
}

func checkMove(t *testing.T, x *tree.Tree, n, parent, at int, e api.Errno) {
	t.Helper()
	before := x.Order()
	if got := x.Move(n, parent, at); got != e {
		t.Errorf("Move(%d, %d, %d): %d, not %d", n, parent, at, got, e)
	}
	checkStays(t, x, before, e)
}

func checkStays(t *testing.T, x *tree.Tree, before []int, e api.Errno) {
	t.Helper()
	if e != api.OK && !slices.Equal(x.Order(), before) {
		t.Errorf("changed with the error %d: %v, not %v", e, x.Order(), before)
	}
}

// P10.1

func TestNew(t *testing.T) {
	x := tree.New()
	newModel().check(t, x)
	// Each one is a tree of its own.
	add(t, tree.New(), 0, 0)
	newModel().check(t, x)
}

func TestCopy(t *testing.T) {
	x := small(t)
	y := x.Copy()
	checkOrder(t, y, 0, 1, 4, 6, 5, 2, 3)
	checkDrop(t, x, 1, api.OK)
	checkAdd(t, x, 2, 0, 7, api.OK)
	checkOrder(t, x, 0, 2, 7, 3)
	checkOrder(t, y, 0, 1, 4, 6, 5, 2, 3)
	// It counts by itself from the same next number on.
	checkAdd(t, y, 0, 1, 7, api.OK)
	checkAdd(t, y, 4, 1, 8, api.OK)
	checkMove(t, y, 5, 3, 0, api.OK)
	checkOrder(t, y, 0, 1, 4, 6, 8, 7, 2, 3, 5)
	checkOrder(t, x, 0, 2, 7, 3)
	checkAdd(t, x, 0, 0, 8, api.OK)
}

func TestCopyCounts(t *testing.T) {
	x := small(t)
	checkDrop(t, x, 6, api.OK)
	checkDrop(t, x, 5, api.OK)
	checkAdd(t, x.Copy(), 0, 0, 7, api.OK)
	checkAdd(t, x.Copy().Copy(), 0, 0, 7, api.OK)
	checkAdd(t, x, 0, 0, 7, api.OK)
}

// P10.2

func TestAdd(t *testing.T) {
	x := tree.New()
	checkAdd(t, x, 0, 0, 1, api.OK)
	checkAdd(t, x, 0, 0, 2, api.OK)
	if got := x.Kids(0); !slices.Equal(got, []int{2, 1}) {
		t.Errorf("children %v", got)
	}
	checkAdd(t, x, 0, 2, 3, api.OK)
	checkAdd(t, x, 0, 1, 4, api.OK)
	checkAdd(t, x, 4, 0, 5, api.OK)
	checkAdd(t, x, 4, 1, 6, api.OK)
	checkOrder(t, x, 0, 2, 4, 5, 6, 1, 3)
}

func TestAddErrors(t *testing.T) {
	x := small(t)
	for _, parent := range []int{-1, 7, 8, math.MinInt, math.MaxInt} {
		checkAdd(t, x, parent, 0, 0, api.ErrNone)
		checkAdd(t, x, parent, -1, 0, api.ErrNone)
	}
	for _, at := range []int{-1, 4, math.MinInt, math.MaxInt} {
		checkAdd(t, x, 0, at, 0, api.ErrRange)
	}
	checkAdd(t, x, 6, 1, 0, api.ErrRange)
	checkDrop(t, x, 4, api.OK)
	checkAdd(t, x, 4, 0, 0, api.ErrNone)
	checkAdd(t, x, 6, 0, 0, api.ErrNone)
	// No error has taken a number.
	checkAdd(t, x, 0, 3, 7, api.OK)
}

func TestAddCount(t *testing.T) {
	x, last := full(t)
	checkAdd(t, x, 0, 0, 0, api.ErrCount)
	checkAdd(t, x, last, 0, 0, api.ErrCount)
	checkAdd(t, x, 0, -1, 0, api.ErrRange)
	checkAdd(t, x, last, 1, 0, api.ErrRange)
	checkAdd(t, x, api.MaxNodes, 0, 0, api.ErrNone)
	checkDrop(t, x, 1, api.OK)
	checkAdd(t, x, last, 0, 0, api.ErrDepth)
	checkAdd(t, x, 2, 0, api.MaxNodes, api.OK)
	checkAdd(t, x, 2, 0, 0, api.ErrCount)
}

func TestAddDepth(t *testing.T) {
	x := tree.New()
	last := chain(t, x, 0, api.MaxDepth)
	checkAdd(t, x, last, 1, 0, api.ErrRange)
	checkAdd(t, x, last, 0, 0, api.ErrDepth)
	above, _ := x.Parent(last)
	checkAdd(t, x, above, 1, last+1, api.OK)
	if got := x.Depth(last + 1); got != api.MaxDepth {
		t.Errorf("depth %d", got)
	}
}

// P10.3

func TestDrop(t *testing.T) {
	x := small(t)
	checkDrop(t, x, 6, api.OK)
	checkOrder(t, x, 0, 1, 4, 5, 2, 3)
	checkDrop(t, x, 1, api.OK)
	checkOrder(t, x, 0, 2, 3)
	for _, n := range []int{1, 4, 5, 6} {
		if x.Has(n) {
			t.Errorf("%d is still there", n)
		}
		checkDrop(t, x, n, api.ErrNone)
	}
	checkDrop(t, x, 3, api.OK)
	checkDrop(t, x, 2, api.OK)
	checkOrder(t, x, 0)
	checkAdd(t, x, 0, 0, 7, api.OK)
}

func TestDropErrors(t *testing.T) {
	x := small(t)
	checkDrop(t, x, 0, api.ErrArg)
	for _, n := range []int{-1, 7, math.MinInt, math.MaxInt} {
		checkDrop(t, x, n, api.ErrNone)
	}
}

func TestMove(t *testing.T) {
	x := small(t)
	checkMove(t, x, 4, 3, 0, api.OK)
	checkOrder(t, x, 0, 1, 5, 2, 3, 4, 6)
	checkMove(t, x, 3, 1, 0, api.OK)
	checkOrder(t, x, 0, 1, 3, 4, 6, 5, 2)
	checkMove(t, x, 6, 0, 1, api.OK)
	checkOrder(t, x, 0, 1, 3, 4, 5, 6, 2)
	if got := x.Depth(6); got != 1 {
		t.Errorf("depth %d", got)
	}
}

// Among the children of the same parent, the index counts the other ones.
func TestMoveWithin(t *testing.T) {
	for at, want := range [][]int{{1, 2, 3}, {2, 1, 3}, {2, 3, 1}} {
		x := small(t)
		checkMove(t, x, 1, 0, at, api.OK)
		if got := x.Kids(0); !slices.Equal(got, want) {
			t.Errorf("at %d: %v, not %v", at, got, want)
		}
	}
	x := small(t)
	checkMove(t, x, 1, 0, 3, api.ErrRange)
	checkMove(t, x, 6, 4, 0, api.OK)
	checkMove(t, x, 6, 4, 1, api.ErrRange)
	checkMove(t, x, 6, 0, 3, api.OK)
	checkOrder(t, x, 0, 1, 4, 5, 2, 3, 6)
}

func TestMoveErrors(t *testing.T) {
	x := small(t)
	checkMove(t, x, 0, 1, 0, api.ErrArg)
	checkMove(t, x, 0, 0, 0, api.ErrArg)
	checkMove(t, x, 0, 99, -1, api.ErrArg)
	for _, n := range []int{-1, 7, math.MinInt, math.MaxInt} {
		checkMove(t, x, n, 0, 0, api.ErrNone)
		checkMove(t, x, 1, n, 0, api.ErrNone)
		checkMove(t, x, n, n, -1, api.ErrNone)
	}
	for _, parent := range []int{1, 4, 5, 6} {
		checkMove(t, x, 1, parent, 0, api.ErrShape)
		checkMove(t, x, 1, parent, -1, api.ErrShape)
	}
	for _, at := range []int{-1, 1, math.MinInt, math.MaxInt} {
		checkMove(t, x, 1, 2, at, api.ErrRange)
	}
	checkMove(t, x, 2, 1, 3, api.ErrRange)
	checkAdd(t, x, 0, 0, 7, api.OK)
}

func TestMoveDepth(t *testing.T) {
	x := tree.New()
	deep := chain(t, x, 0, api.MaxDepth-2)
	top := add(t, x, 0, 0)
	a := add(t, x, top, 0)
	b := add(t, x, top, 0)
	checkMove(t, x, top, deep, 1, api.ErrRange)
	checkMove(t, x, top, deep, 0, api.OK)
	if x.Depth(a) != api.MaxDepth || x.Depth(b) != api.MaxDepth {
		t.Errorf("depths %d and %d", x.Depth(a), x.Depth(b))
	}
	checkMove(t, x, top, 0, 0, api.OK)
	below := add(t, x, b, 0)
	checkMove(t, x, top, deep, 1, api.ErrRange)
	checkMove(t, x, top, deep, 0, api.ErrDepth)
	checkMove(t, x, b, deep, 0, api.OK)
	checkMove(t, x, a, below, 0, api.ErrDepth)
	checkMove(t, x, b, top, 0, api.OK)
	checkMove(t, x, a, below, 0, api.OK)
	if got := x.Depth(a); got != 4 {
		t.Errorf("depth %d", got)
	}
}

// Moving neither adds nodes nor makes those deeper that stay as deep.
func TestMoveFull(t *testing.T) {
	x, last := full(t)
	above, _ := x.Parent(last)
	checkMove(t, x, last, above, 0, api.OK)
	checkMove(t, x, 1, above, 1, api.OK)
	checkMove(t, x, 2, last, 0, api.ErrDepth)
	checkMove(t, x, 2, 3, 0, api.OK)
	if x.Len() != api.MaxNodes {
		t.Errorf("%d nodes", x.Len())
	}
}

// P10.4

func TestReads(t *testing.T) {
	x := small(t)
	m := newModel()
	for i, parent := range []int{0, 0, 0, 1, 1, 4} {
		if n, e := m.add(parent, len(m.kids(parent))); n != i+1 || e != api.OK {
			t.Fatalf("model: %d, %d", n, e)
		}
	}
	m.check(t, x)
	if n, ok := x.Parent(6); n != 4 || !ok || x.Depth(6) != 3 || !slices.Equal(x.Kids(1), []int{4, 5}) {
		t.Error("a node and its relations")
	}
	if n, ok := x.Parent(1); n != 0 || !ok {
		t.Errorf("parent of 1: %d, %v", n, ok)
	}
	if n, ok := x.Parent(0); n != 0 || ok || x.Depth(0) != 0 {
		t.Errorf("parent of the root: %d, %v", n, ok)
	}
	if n, ok := x.Parent(7); n != 0 || ok || x.Depth(7) != 0 || len(x.Kids(7)) != 0 || x.Has(7) {
		t.Error("a node that does not exist")
	}
}

// What was given does not change, and what is done to it does not change the tree.
func TestApart(t *testing.T) {
	x := small(t)
	order, kids := x.Order(), x.Kids(0)
	add(t, x, 0, 0)
	checkDrop(t, x, 3, api.OK)
	checkMove(t, x, 2, 0, 0, api.OK)
	if !slices.Equal(order, []int{0, 1, 4, 6, 5, 2, 3}) || !slices.Equal(kids, []int{1, 2, 3}) {
		t.Errorf("changed: %v, %v", order, kids)
	}
	x = small(t)
	for _, n := range []int{0, 1, 4} {
		given := x.Kids(n)
		given = append(given[:0], given[1:]...)
		_ = append(given, 99, 99)
		clear(x.Kids(n))
	}
	clear(x.Order())
	checkOrder(t, x, 0, 1, 4, 6, 5, 2, 3)
}

func TestNil(t *testing.T) {
	var x *tree.Tree
	if x.Copy() != nil {
		t.Error("copy")
	}
	for _, n := range []int{-1, 0, 1, math.MaxInt} {
		if got, e := x.Add(n, n); got != 0 || e != api.ErrArg {
			t.Errorf("Add: %d, %d", got, e)
		}
		if e := x.Drop(n); e != api.ErrArg {
			t.Errorf("Drop: %d", e)
		}
		if e := x.Move(n, n, n); e != api.ErrArg {
			t.Errorf("Move: %d", e)
		}
		if got, ok := x.Parent(n); got != 0 || ok || x.Has(n) || len(x.Kids(n)) != 0 || x.Depth(n) != 0 {
			t.Errorf("node %d", n)
		}
	}
	if len(x.Order()) != 0 || x.Len() != 0 {
		t.Error("order")
	}
}

// P10.1 to P10.4, by steps that are held against the model

// any number of a node: mostly one that exists.
func (m *model) any(r *rand.Rand) int {
	if r.Intn(8) == 0 {
		return r.Intn(m.next+2) - 1
	}
	return m.l[r.Intn(len(m.l))].n
}

// deep: likewise mostly one of the deepest ones.
func (m *model) deep(r *rand.Rand) int {
	n, depth := m.any(r), -1
	if r.Intn(3) == 0 {
		return n
	}
	for _, e := range m.l {
		if e.depth > depth {
			n, depth = e.n, e.depth
		}
	}
	return n
}

// step on both: the answers must be the same.
func (m *model) step(t *testing.T, r *rand.Rand, x *tree.Tree) {
	t.Helper()
	parent, n := m.any(r), m.any(r)
	at := r.Intn(len(m.kids(parent))+3) - 1
	switch r.Intn(10) {
	case 0:
		if got, want := x.Drop(n), m.drop(n); got != want {
			t.Fatalf("Drop(%d): %d, not %d", n, got, want)
		}
	case 1, 2, 3, 4:
		if got, want := x.Move(n, parent, at), m.move(n, parent, at); got != want {
			t.Fatalf("Move(%d, %d, %d): %d, not %d", n, parent, at, got, want)
		}
	default:
		if r.Intn(2) == 0 {
			parent, at = m.deep(r), 0
		}
		want, wantE := m.add(parent, at)
		if got, e := x.Add(parent, at); got != want || e != wantE {
			t.Fatalf("Add(%d, %d): %d, %d, not %d, %d", parent, at, got, e, want, wantE)
		}
	}
}

func TestSteps(t *testing.T) {
	r := rand.New(rand.NewSource(1))
	for range 100 {
		x, m := tree.New(), newModel()
		for range 60 {
			if r.Intn(10) == 0 {
				// The original is changed while the copy goes on, which must not notice.
				y := x.Copy()
				m.copy().step(t, r, x)
				x = y
			}
			m.step(t, r, x)
			m.check(t, x)
		}
	}
}

// Long chains, so that there are errors of the depth.
func TestStepsDeep(t *testing.T) {
	r := rand.New(rand.NewSource(2))
	for range 20 {
		x, m := tree.New(), newModel()
		for n := 0; n < 2*api.MaxDepth-8; n++ {
			parent := n
			if n == api.MaxDepth-4 {
				parent = 0
			}
			want, wantE := m.add(parent, 0)
			if got, e := x.Add(parent, 0); got != want || e != wantE {
				t.Fatalf("Add(%d, 0): %d, %d, not %d, %d", parent, got, e, want, wantE)
			}
		}
		for range 60 {
			m.step(t, r, x)
		}
		m.check(t, x)
	}
}
