package slots

import (
	"bytes"
	"math/rand"
	"slices"
	"testing"

	"tryst/api"
	"tryst/pager"
)

// model goes by the chapter's words: a list of records beside a pager of its own, on which just those pages are loaded and saved that the chapter names.
type model struct {
	pager          *pager.Pager
	first, n, size int
	records        [][]byte
	rests          map[int][]byte // of each page, what stands behind its slots
	log            []api.Access
}

func newModel(p *pager.Pager, first, n, size int) *model {
	m := &model{pager: p, first: first, n: n, size: size, rests: map[int][]byte{}}
	for range n {
		m.records = append(m.records, make([]byte, size))
	}
	for number := range p.Pages() {
		m.rests[number] = make([]byte, p.Text()%size)
	}
	return m
}

func (m *model) page(i int) int { return m.first + i/(m.pager.Text()/m.size) }

// text is the page of a slot, as the list says that it is.
func (m *model) text(i int) []byte {
	var text []byte
	for k := range m.pager.Text() / m.size {
		slot := (m.page(i)-m.first)*(m.pager.Text()/m.size) + k
		if slot < m.n {
			text = append(text, m.records[slot]...)
		} else {
			text = append(text, make([]byte, m.size)...)
		}
	}
	return append(text, m.rests[m.page(i)]...)
}

func (m *model) load(i int) api.Errno {
	text, err := m.pager.Load(m.page(i))
	if err == api.OK && !bytes.Equal(text, m.text(i)) {
		panic("the model is wrong")
	}
	return err
}

func (m *model) save(i int) api.Errno { return m.pager.Save(m.page(i), m.text(i)) }

func (m *model) there(i int) bool { return 0 <= i && i < m.n }

func (m *model) get(i int) ([]byte, api.Errno) {
	if !m.there(i) {
		return nil, api.ErrArg
	}
	m.log = append(m.log, api.Access{Kind: 0, Slot: i})
	if err := m.load(i); err != api.OK {
		return nil, err
	}
	return m.records[i], api.OK
}

func (m *model) set(i int, b []byte) api.Errno {
	if !m.there(i) {
		return api.ErrArg
	}
	if len(b) != m.size {
		return api.ErrLength
	}
	m.log = append(m.log, api.Access{Kind: 1, Slot: i})
	if err := m.load(i); err != api.OK {
		return err
	}
	m.records[i] = bytes.Clone(b)
	return m.save(i)
}

func (m *model) pair(i, j int, f func(a, b []byte)) api.Errno {
	if !m.there(i) || !m.there(j) || i == j {
		return api.ErrArg
	}
	m.log = append(m.log, api.Access{Kind: 2, Slot: i, Other: j})
	if err := m.load(i); err != api.OK {
		return err
	}
	if m.page(i) != m.page(j) {
		if err := m.load(j); err != api.OK {
			return err
		}
	}
	f(m.records[i], m.records[j])
	err := m.save(i)
	if err == api.OK && m.page(i) != m.page(j) {
		err = m.save(j)
	}
	return err
}

// life is a store with slots on it, and one with their model.
type life struct {
	stores [2]*shelf
	slots  *Slots
	model  *model
}

func newLife(t *testing.T, source *rand.Rand, troubles int) life {
	pages, text, window := 1+source.Intn(8), 1+source.Intn(20), 2+source.Intn(3)
	size, first := 1+source.Intn(text), source.Intn(pages)
	n := source.Intn((pages-first)*(text/size) + 1)
	l := life{stores: [2]*shelf{newShelf(pages, text), newShelf(pages, text)}}
	for range troubles {
		at, err := source.Intn(60), errnos[source.Intn(len(errnos))]
		l.stores[0].refuse[at], l.stores[1].refuse[at] = err, err
	}
	l.slots = made(t, over(t, l.stores[0], window), first, n, size)
	l.model = newModel(over(t, l.stores[1], window), first, n, size)
	// What stands on the pages ahead of it: the rests stay.
	for number := first; number < pages && number-first < 2; number++ {
		held := make([]byte, text)
		rest := l.model.rests[number]
		source.Read(rest)
		copy(held[text-len(rest):], rest)
		l.slots.pager.Save(number, held)
		l.model.pager.Save(number, held)
	}
	return l
}

// mixed is an f that hangs on what it is handed.
func mixed(by byte) func(a, b []byte) {
	return func(a, b []byte) {
		for k := range a {
			a[k], b[k] = b[k]+by, a[k]^by
		}
	}
}

// step does one call of both, and holds what they answer against each other.
func (l life) step(t *testing.T, source *rand.Rand) {
	t.Helper()
	i, j := source.Intn(l.model.n+2)-1, source.Intn(l.model.n+2)-1
	b := make([]byte, l.model.size+max(0, source.Intn(20)-18))
	source.Read(b)
	switch source.Intn(3) {
	case 0:
		got, gotErr := l.slots.Get(i)
		if want, wantErr := l.model.get(i); gotErr != wantErr || !bytes.Equal(got, want) {
			t.Fatalf("Get(%d) = %v, %d, want %v, %d", i, got, gotErr, want, wantErr)
		}
	case 1:
		if got, want := l.slots.Set(i, b), l.model.set(i, b); got != want {
			t.Fatalf("Set(%d, %v) = %d, want %d", i, b, got, want)
		}
	default:
		if got, want := l.slots.Pair(i, j, mixed(b[0])), l.model.pair(i, j, mixed(b[0])); got != want {
			t.Fatalf("Pair(%d, %d) = %d, want %d", i, j, got, want)
		}
	}
}

func (l life) check(t *testing.T) {
	t.Helper()
	checkHeld(t, l.slots.pager, l.model.pager.Held()...)
	if !slices.Equal(l.stores[0].deeds, l.stores[1].deeds) {
		t.Fatalf("the store was asked for %v, want %v", l.stores[0].deeds, l.stores[1].deeds)
	}
	if got := l.slots.Log(); !slices.Equal(got, l.model.log) {
		t.Fatalf("Log() = %v, want %v", got, l.model.log)
	}
}

// P15.2 to P15.8: drawn lives, with troubles and without, against the model, call by call.
func TestDrawnLives(t *testing.T) {
	for seed := range 400 {
		source := rand.New(rand.NewSource(int64(seed)))
		l := newLife(t, source, seed%3)
		for range 100 {
			l.step(t, source)
			l.check(t)
		}
	}
}

// P15.8: over an honest store slots are a list, and no error comes but those of wrong arguments.
func TestSlotsAreAList(t *testing.T) {
	for seed := range 60 {
		source := rand.New(rand.NewSource(int64(1000 + seed)))
		l := newLife(t, source, 0)
		for range 100 {
			l.step(t, source)
		}
		for i, record := range l.model.records {
			checkGet(t, l.slots, i, record...)
		}
		if err := l.slots.pager.Err(); err != api.OK {
			t.Fatalf("the pager is dead of %d", err)
		}
	}
}

// P15.8: slots on other pages of one pager, of other sizes, leave one another alone; each has a log of its own.
func TestSideBySide(t *testing.T) {
	store := newShelf(6, 7)
	p := over(t, store, 2)
	small, great, none := made(t, p, 0, 6, 2), made(t, p, 2, 4, 7), made(t, p, 6, 0, 3)
	for i := range 6 {
		checkSet(t, small, api.OK, i, byte(i), byte(100+i))
		if i < 4 {
			checkSet(t, great, api.OK, i, bytes.Repeat([]byte{byte(200 + i)}, 7)...)
		}
	}
	checkPair(t, small, api.OK, 5, 0, exchange)
	checkPair(t, great, api.OK, 0, 3, exchange)
	for i, number := range []byte{5, 1, 2, 3, 4, 0} {
		checkGet(t, small, i, number, 100+number)
	}
	for i, number := range []byte{203, 201, 202, 200} {
		checkGet(t, great, i, bytes.Repeat([]byte{number}, 7)...)
	}
	checkText(t, p, 0, 5, 105, 1, 101, 2, 102, 0)
	if len(small.Log()) != 13 || len(great.Log()) != 9 || len(none.Log()) != 0 {
		t.Errorf("%d, %d and %d accesses", len(small.Log()), len(great.Log()), len(none.Log()))
	}
}

// P15.8: two slots on the same pages are two ways to one thing.
func TestOneAboveTheOther(t *testing.T) {
	p := over(t, newShelf(2, 4), 2)
	whole, halves := made(t, p, 0, 2, 4), made(t, p, 0, 4, 2)
	checkSet(t, whole, api.OK, 1, 1, 2, 3, 4)
	checkPair(t, halves, api.OK, 2, 3, exchange)
	checkGet(t, whole, 1, 3, 4, 1, 2)
	checkLog(t, halves, [3]int{api.AxPair, 2, 3})
}

// P15.8: which accesses are written down, and which pages go over to the store, hangs on no byte.
func TestNothingIsSeen(t *testing.T) {
	live := func(fill func(b []byte)) ([]api.Access, []int) {
		store := newShelf(8, 10)
		s := made(t, over(t, store, 3), 1, 20, 3)
		source := rand.New(rand.NewSource(5))
		for range 300 {
			b := make([]byte, 3)
			fill(b)
			switch i, j := source.Intn(20), source.Intn(20); source.Intn(3) {
			case 0:
				s.Get(i)
			case 1:
				s.Set(i, b)
			default:
				s.Pair(i, j, func(a, c []byte) {
					copy(a, b)
					fill(c)
				})
			}
		}
		var seen []int
		for _, d := range store.deeds {
			seen = append(seen, d.op, d.page)
		}
		return s.Log(), seen
	}
	log, seen := live(func(b []byte) {})
	drawn := rand.New(rand.NewSource(6))
	other, otherSeen := live(func(b []byte) { drawn.Read(b) })
	if !slices.Equal(log, other) || !slices.Equal(seen, otherSeen) {
		t.Errorf("two lives with other bytes are told apart")
	}
	if len(seen) < 100 {
		t.Errorf("the store was asked for too little to tell: %d", len(seen))
	}
}
