package pager

import (
	"bytes"
	"math/rand"
	"slices"
	"testing"

	"tryst/api"
	"tryst/page"
)

// model goes by the chapter's words: it keeps all uses and all writes, each in one row, and looks them through each time.
type model struct {
	window, pages, text int
	round               uint64
	in                  map[int][]byte // the held pages
	unsaved             map[int]bool
	uses                []int // all of them, the newest at the end
	writes              []int // the pages, likewise
	boxes               []string
	places              []api.Place
	deeds               []deed
	most                int
	dead                api.Errno
	refuse              map[int]api.Errno
	spoil               map[int]bool
}

func (m *model) held() []int {
	var order []int
	for i := len(m.uses) - 1; i >= 0; i-- {
		number := m.uses[i]
		if _, ok := m.in[number]; ok && !slices.Contains(order, number) {
			order = append(order, number)
		}
	}
	slices.Reverse(order)
	return order
}

func (m *model) written(number int) (times, last int) {
	for i, other := range m.writes {
		if other == number {
			times, last = times+1, i
		}
	}
	return times, last
}

func (m *model) write(number int) {
	times, _ := m.written(number)
	place := api.Place{Round: m.round, Counter: uint32(len(m.writes)), Page: uint32(number), Version: uint32(times + 1)}
	box, _ := page.Seal(counted(1), place, m.in[number])
	at := len(m.deeds)
	m.deeds = append(m.deeds, deed{op: api.OpWrite, page: number, box: string(box)})
	if m.dead = m.refuse[at]; m.dead != api.OK {
		return
	}
	m.writes, m.boxes, m.places = append(m.writes, number), append(m.boxes, string(box)), append(m.places, place)
	delete(m.unsaved, number)
}

func (m *model) room() {
	if len(m.in) < m.window {
		return
	}
	oldest := m.held()[0]
	if m.unsaved[oldest] {
		m.write(oldest)
	}
	if m.dead == api.OK {
		delete(m.in, oldest)
	}
}

func (m *model) come(number int, text []byte) {
	m.in[number] = text
	m.uses = append(m.uses, number)
	m.most = max(m.most, len(m.in))
}

func (m *model) load(number int) ([]byte, api.Errno) {
	if m.dead != api.OK {
		return nil, m.dead
	}
	if number < 0 || number >= m.pages {
		return nil, api.ErrArg
	}
	text, ok := m.in[number]
	if !ok {
		text = make([]byte, m.text)
		m.room()
		if times, last := m.written(number); times > 0 && m.dead == api.OK {
			at := len(m.deeds)
			m.deeds = append(m.deeds, deed{op: api.OpRead, page: number})
			text, _ = page.Open(counted(1), m.places[last], []byte(m.boxes[last]))
			if m.dead = m.refuse[at]; m.dead == api.OK && m.spoil[at] {
				m.dead = api.ErrIntegrity
			}
		}
	}
	if m.dead != api.OK {
		return nil, m.dead
	}
	m.come(number, text)
	return text, api.OK
}

func (m *model) save(number int, text []byte) api.Errno {
	switch {
	case m.dead != api.OK:
		return m.dead
	case number < 0 || number >= m.pages:
		return api.ErrArg
	case len(text) != m.text:
		return api.ErrLength
	}
	if _, ok := m.in[number]; !ok {
		m.room()
	}
	if m.dead == api.OK {
		m.come(number, text)
		m.unsaved[number] = true
	}
	return m.dead
}

func (m *model) flush() api.Errno {
	if m.dead != api.OK {
		return m.dead
	}
	for number := range m.pages {
		if m.unsaved[number] && m.dead == api.OK {
			m.write(number)
		}
	}
	return m.dead
}

// lives are a pager over a shelf and its model, with the same troubles.
func lives(t *testing.T, source *rand.Rand, troubles int) (*shelf, *Pager, *model) {
	s := newShelf(1+source.Intn(24), 29+source.Intn(20))
	window := 2 + source.Intn(15)
	round := source.Uint64()
	m := &model{window: window, pages: s.pages, text: s.size - 28, round: round, in: map[int][]byte{}, unsaved: map[int]bool{}, refuse: s.refuse, spoil: map[int]bool{}}
	for range troubles {
		at := source.Intn(60)
		if source.Intn(2) == 0 {
			s.refuse[at] = errnos[source.Intn(len(errnos))]
			continue
		}
		m.spoil[at] = true
		where, by := source.Intn(s.size), byte(1+source.Intn(255))
		s.lie[at] = func(right []byte) []byte {
			right[where] ^= by
			return right
		}
	}
	return s, made(t, s, round, window), m
}

func checkSame(t *testing.T, s *shelf, p *Pager, m *model) {
	t.Helper()
	checkHeld(t, p, m.held()...)
	checkTold(t, p, m.most, uint32(len(m.writes)), m.dead)
	if len(p.Held()) > m.window || p.Most() > m.window {
		t.Fatalf("%d pages are held, %d were, in a window of %d", len(p.Held()), p.Most(), m.window)
	}
	if !slices.Equal(s.deeds, m.deeds) {
		t.Fatalf("the store was asked for %v, want %v", s.deeds, m.deeds)
	}
}

// step does one call of both, and holds what they answer against each other.
func step(t *testing.T, source *rand.Rand, p *Pager, m *model) {
	t.Helper()
	number := source.Intn(m.pages+2) - 1
	text := make([]byte, m.text)
	source.Read(text)
	if source.Intn(20) == 0 {
		text = text[:source.Intn(len(text))]
	}
	switch pick := source.Intn(20); {
	case pick < 9:
		got, gotErr := p.Load(number)
		if want, wantErr := m.load(number); gotErr != wantErr || !bytes.Equal(got, want) {
			t.Fatalf("Load(%d) = %x, %d, want %x, %d", number, got, gotErr, want, wantErr)
		}
	case pick < 18:
		if got, want := p.Save(number, text), m.save(number, text); got != want {
			t.Fatalf("Save(%d, %x) = %d, want %d", number, text, got, want)
		}
	default:
		if got, want := p.Flush(), m.flush(); got != want {
			t.Fatalf("Flush() = %d, want %d", got, want)
		}
	}
}

// P13.1 to P13.9: drawn lives, with troubles and without, against the model, call by call.
func TestDrawnLives(t *testing.T) {
	for seed := range 300 {
		source := rand.New(rand.NewSource(int64(seed)))
		s, p, m := lives(t, source, seed%4)
		for range 150 {
			step(t, source, p, m)
			checkSame(t, s, p, m)
		}
	}
}

// P13.7: over an honest store each page is what was saved last, and no other error comes than those of wrong arguments.
func TestWhatWasSavedIsThere(t *testing.T) {
	for seed := range 40 {
		source := rand.New(rand.NewSource(int64(1000 + seed)))
		s, p, _ := lives(t, source, 0)
		texts := make([][]byte, s.pages)
		for number := range texts {
			texts[number] = make([]byte, p.Text())
		}
		for range 400 {
			number := source.Intn(s.pages)
			switch source.Intn(5) {
			case 0:
				checkFlush(t, p, api.OK)
			case 1, 2:
				source.Read(texts[number])
				checkSave(t, p, api.OK, number, texts[number]...)
			default:
				checkLoad(t, p, number, texts[number]...)
			}
		}
		for number, text := range texts {
			checkLoad(t, p, number, text...)
		}
		if p.Err() != api.OK {
			t.Fatalf("dead of %d", p.Err())
		}
	}
}
