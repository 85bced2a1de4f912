package layout_test

import (
	"math/big"
	"math/rand"
	"slices"
	"testing"

	"separatum/api"
	"separatum/layout"
	"separatum/types"
)

// told is what the chapter tells of a type: how many words it has, or why it has none.
type told struct {
	n *big.Int
	e api.Errno
}

// limited is n, if it is not beyond the limit.
func limited(n *big.Int) told {
	if n.Cmp(big.NewInt(32767)) > 0 {
		return told{e: api.ErrBig}
	}
	return told{n: n}
}

// tell tells of each type of a table whose types hang on those ahead of them, from the first one on.
func tell(table *types.Table) []told {
	l := []told{}
	of := func(i int) told {
		if i < 0 || i >= len(l) {
			return told{e: api.ErrArg}
		}
		return l[i]
	}
	for i := range table.Len() {
		x := table.Get(i)
		one := told{e: api.ErrArg}
		switch x.Kind {
		case api.KindArray:
			if low, high, is := table.Range(x.Index); is {
				one = rows(of(x.Base), low, high)
			}
		case api.KindOpen:
			one = told{n: big.NewInt(2)}
		case api.KindRec:
			one = told{n: new(big.Int)}
			for _, f := range x.Fields {
				if y := of(f.Type); y.e != api.OK {
					one = y
				} else {
					one = limited(new(big.Int).Add(one.n, y.n))
				}
				if one.e != api.OK {
					break
				}
			}
		case api.KindSet, api.KindPtr, api.KindHidden, api.KindProc:
			one = told{n: big.NewInt(1)}
		default:
			if table.Ordinal(i) && i != api.TypeWhole {
				one = told{n: big.NewInt(1)}
			}
		}
		l = append(l, one)
	}
	return l
}

// rows is x as often as there are numbers from low to high.
func rows(x told, low, high int64) told {
	if x.e != api.OK {
		return x
	}
	n := new(big.Int).Sub(big.NewInt(high), big.NewInt(low))
	n.Add(n, big.NewInt(1))
	if n.Sign() < 0 {
		n.SetInt64(0)
	}
	return limited(n.Mul(n, x.n))
}

// chance is a table of types by chance, which hang on those ahead of them, on few that are none, and on few that are not ordinal.
func chance(t *testing.T, r *rand.Rand) maker {
	m := start(t)
	ends := []int64{-1 << 63, -1 << 31, -40000, -3, -1, 0, 0, 1, 1, 2, 3, 5, 9, 100, 200, 1000, 16000, 32766, 32767, 70000, 1 << 33, 1<<63 - 1}
	any := func() int {
		if r.Intn(20) == 0 {
			return []int{-9, -1, 0, 5, 6, 7, 1024, 5000}[r.Intn(8)]
		}
		return []int{1, 2, 3, 4, 8, 9, 10 + r.Intn(m.Len()), 10 + r.Intn(m.Len())}[r.Intn(8)] % m.Len()
	}
	for range 5 + r.Intn(40) {
		x := api.Type{Kind: uint8(8 + r.Intn(9)), Base: any(), Index: any(), Low: ends[r.Intn(len(ends))], High: ends[r.Intn(len(ends))], Result: any()}
		if r.Intn(2) == 0 {
			x.Kind = []uint8{api.KindSub, api.KindArray, api.KindArray, api.KindRec, api.KindRec}[r.Intn(5)]
		}
		if x.Kind == api.KindSub && r.Intn(9) > 0 {
			x.Base, x.Low, x.High = 1+r.Intn(5), int64(r.Intn(9)-4), int64(r.Intn(20))
		}
		if x.Kind == api.KindArray && r.Intn(9) > 0 {
			x.Index = m.sub(1, ends[r.Intn(len(ends)-4)+2], int64(r.Intn(300)))
		}
		for range r.Intn(6) {
			x.Fields = append(x.Fields, api.Field{Type: any(), Arm: r.Intn(6)})
		}
		m.add(x)
	}
	return m
}

// apart holds rows of words, which begin at these places and are as long as the types say, against each other: none lies in another one, and all lie within so many words.
func apart(m maker, at, l []int, words int) {
	m.Helper()
	taken := make([]bool, words)
	for i, from := range at {
		n, e := layout.Size(m.Table, l[i])
		if e != api.OK || from < 0 || from+n > words {
			m.Fatalf("a row of %d words, %d, at %d does not lie within %d words", n, e, from, words)
		}
		for k := from; k < from+n; k++ {
			if taken[k] {
				m.Fatalf("word %d is in two rows: they begin at %v, of types %v", k, at, l)
			}
			taken[k] = true
		}
	}
	if slices.Contains(taken, false) {
		m.Fatalf("a word is in no row: they begin at %v, of types %v, within %d words", at, l, words)
	}
}

// records holds the fields of the record i against what the chapter tells.
func records(m maker, i int, l []told) {
	m.Helper()
	var at, of []int
	sum := 0
	for k, f := range m.Get(i).Fields {
		m.at(i, k, sum, api.OK, "a record by chance")
		at, of = append(at, sum), append(of, f.Type)
		sum += int(l[f.Type].n.Int64())
	}
	m.at(i, len(at), 0, api.ErrArg, "a record by chance")
	m.at(i, -1, 0, api.ErrArg, "a record by chance")
	apart(m, at, of, sum)
}

// P12.1, P12.3: of tables by chance, each type has the words that the chapter tells; fields lie in words of their own, all within the record.
func TestLaws(t *testing.T) {
	r := rand.New(rand.NewSource(12))
	count := map[api.Errno]int{}
	for range 3000 {
		m := chance(t, r)
		l := tell(m.Table)
		unchanged(t, m.Table, func() {
			for i, x := range l {
				count[x.e]++
				if x.e != api.OK {
					m.size(i, 0, x.e, "a type by chance")
					m.at(i, 0, 0, x.e, "a type by chance")
					continue
				}
				m.size(i, int(x.n.Int64()), api.OK, "a type by chance")
				if m.Get(i).Kind == api.KindRec {
					records(m, i, l)
				} else {
					m.at(i, 0, 0, api.ErrArg, "a type by chance")
				}
			}
		})
		if t.Failed() {
			t.Fatalf("of the table %v", all(m.Table))
		}
	}
	if count[api.OK] < 1000 || count[api.ErrArg] < 1000 || count[api.ErrBig] < 1000 {
		t.Fatalf("too few types of one kind: %v", count)
	}
}

// P12.2, P12.3: variables of types by chance lie in words of their own, and all words are some variable's.
func TestLawsPlaces(t *testing.T) {
	r := rand.New(rand.NewSource(13))
	count := map[api.Errno]int{}
	for range 3000 {
		m := chance(t, r)
		great := m.row(int64(5000+r.Intn(25000)), api.TypeInt)
		l := tell(m.Table)
		var of []int
		first, sum := api.OK, 0
		for range r.Intn(12) {
			i := r.Intn(len(l))
			if l[i].e != api.OK && r.Intn(5) > 0 {
				i = []int{1, 1, 1, great}[r.Intn(4)]
			}
			of = append(of, i)
			if l[i].e == api.OK {
				sum += int(l[i].n.Int64())
			} else if first == api.OK {
				first = l[i].e
			}
		}
		if first == api.OK && sum > 32767 {
			first = api.ErrBig
		}
		at, words, e := layout.Places(m.Table, of)
		count[e]++
		if e != first || e == api.OK && (len(at) != len(of) || words != sum) || e != api.OK && (len(at) != 0 || words != 0) {
			t.Fatalf("Places of %v is %v, %d, %d, not %d words, %d; of the table %v", of, at, words, e, sum, first, all(m.Table))
		}
		if e == api.OK {
			apart(m, at, of, words)
			if !slices.IsSorted(at) {
				t.Fatalf("Places of %v is %v: not one behind the other", of, at)
			}
		}
	}
	if count[api.OK] < 100 || count[api.ErrArg] < 100 || count[api.ErrBig] < 100 {
		t.Fatalf("too few of one kind: %v", count)
	}
}

// R6: an answer hangs on the table alone, not on what was asked ahead.
func TestAgain(t *testing.T) {
	for seed := range int64(100) {
		a, b := chance(t, rand.New(rand.NewSource(seed))), chance(t, rand.New(rand.NewSource(seed)))
		for i := range a.Len() {
			n, e := layout.Size(a.Table, i)
			b.size(i, n, e, "the same table")
		}
		for i := a.Len() - 1; i >= 0; i-- {
			n, e := layout.Size(b.Table, i)
			a.size(i, n, e, "the same table, the other way about")
		}
	}
}

// R1: towers of types, each of which names the one below it again and again, are soon told.
func TestTowers(t *testing.T) {
	m := start(t)
	i := m.record()
	for m.Len() < 1020 {
		i = m.record(i, i, i)
	}
	m.size(i, 0, api.OK, "records of records of no words")
	m.ats(i, []int{0, 0, 0}, "records of records of no words")
	m.places([]int{i, i, 1, i}, []int{0, 0, 0, 1}, 1, api.OK)

	m = start(t)
	i = m.row(0, api.TypeInt)
	for m.Len() < 1020 {
		i = m.array(api.TypeChar, m.record(i, i))
	}
	m.size(i, 0, api.OK, "arrays of records of no words")

	m = start(t)
	i = api.TypeInt
	for m.Len() < 1020 {
		i = m.record(i)
	}
	m.size(i, 1, api.OK, "a word in records")
	m.places(slices.Repeat([]int{i}, 30000), upTo(30000), 30000, api.OK)
}

// upTo are the numbers from 0 on, n of them.
func upTo(n int) []int {
	l := make([]int, n)
	for i := range l {
		l[i] = i
	}
	return l
}

// ends asks all that may be asked of the table: each call ends, and tells nothing beside an error.
func ends(t *testing.T, table *types.Table) {
	t.Helper()
	for i := -2; i < table.Len()+2; i++ {
		n, e := layout.Size(table, i)
		if e != api.OK && n != 0 || n < 0 || n > 32767 {
			t.Fatalf("Size of %d is %d, %d", i, n, e)
		}
		for field := -1; field < 6; field++ {
			if n, e := layout.At(table, i, field); e != api.OK && n != 0 || n < 0 || n > 32767 {
				t.Fatalf("At of %d, field %d, is %d, %d", i, field, n, e)
			}
		}
		layout.Arm(table, i, int64(i))
		if at, n, e := layout.Places(table, []int{1, i, i, 1}); e != api.OK && (n != 0 || len(at) != 0) || e == api.OK && (len(at) != 4 || n > 32767) {
			t.Fatalf("Places of %d is %v, %d, %d", i, at, n, e)
		}
	}
}

// R1: each call ends, also of types that lead back to themselves: of these the chapter says nothing, here they have no words.
func TestEndsBack(t *testing.T) {
	m := start(t)
	f, g, h := m.forward(), m.forward(), m.forward()
	m.set(f, api.Type{Kind: api.KindRec, Fields: fields(f)})
	m.set(g, api.Type{Kind: api.KindRec, Fields: fields(api.TypeInt, m.row(2, m.row(3, m.record(g, g))))})
	m.set(h, api.Type{Kind: api.KindArray, Index: api.TypeBool, Base: h})
	for _, i := range []int{f, g, h, m.row(4, h), m.record(api.TypeInt, g)} {
		m.size(i, 0, api.ErrArg, "what leads back to itself")
		m.at(i, 0, 0, api.ErrArg, "what leads back to itself")
		m.places([]int{api.TypeInt, i}, nil, 0, api.ErrArg)
	}
	ends(t, m.Table)
}

// R1: each call ends, of whatever tables there may be.
func TestEnds(t *testing.T) {
	r := rand.New(rand.NewSource(3))
	for range 500 {
		table := types.New()
		n := 1 + r.Intn(30)
		any := func() int { return r.Intn(n+12) - 1 }
		for range n {
			x := api.Type{Kind: []uint8{8, 9, 10, 11, 12, 12, 12, 13, 14, 17, 17}[r.Intn(11)], Base: any(), Index: []int{1, 3, 4, 8, any()}[r.Intn(5)], High: 3}
			for range r.Intn(5) {
				x.Fields = append(x.Fields, api.Field{Type: any(), Arm: r.Intn(4)})
			}
			table.Add(x)
		}
		for i := range table.Len() {
			x := api.Type{Kind: []uint8{10, 12, 12}[r.Intn(3)], Base: any(), Index: api.TypeBool, Fields: fields(any(), any())}
			if table.Get(i).Kind == api.KindForward {
				table.Set(i, x)
			}
		}
		ends(t, table)
	}
}
