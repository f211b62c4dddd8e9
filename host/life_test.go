package host

import (
	"fmt"
	"math/rand"
	"slices"
	"testing"

	"tryst/api"
)

// life is what a host and its model have in common.
type life interface {
	api.Vault
	Restart()
	Down() bool
	Ops() int
	Log() []api.Touch
	Lies(page int) []byte
}

// model goes by the chapter's words: it keeps all that was ever written, in one row, and looks all of it and all faults through each time.
type model struct {
	pages, size int
	faults      []api.Fault
	writes      []struct {
		page int
		b    []byte
	}
	register uint64
	ops      int
	log      []api.Touch
	down     bool
}

func (m *model) Pages() int { return m.pages }

func (m *model) Size() int { return m.size }

func (m *model) Restart() { m.down = false }

func (m *model) Down() bool { return m.down }

func (m *model) Ops() int { return m.ops }

func (m *model) Log() []api.Touch { return m.log }

func (m *model) Lies(page int) []byte {
	if page < 0 || page >= m.pages {
		return nil
	}
	return m.lay(page, 0)
}

func (m *model) lay(page, back int) []byte {
	for i := len(m.writes) - 1; i >= 0; i-- {
		if m.writes[i].page != page {
			continue
		}
		if back <= 0 {
			return slices.Clone(m.writes[i].b)
		}
		back--
	}
	return make([]byte, m.size)
}

// at is how many faults of a kind befall an operation.
func (m *model) at(op, kind int) int {
	n := 0
	for _, f := range m.faults {
		if f.At == op && f.Kind == kind {
			n++
		}
	}
	return n
}

func (m *model) operate(touch api.Touch, do func(number int)) api.Errno {
	if m.down {
		return api.ErrDown
	}
	number := m.ops
	m.ops++
	if m.at(number, 3) > 0 {
		m.down = true
		return api.ErrDown
	}
	do(number)
	m.log = append(m.log, touch)
	if m.at(number, 4) > 0 {
		m.down = true
		return api.ErrDown
	}
	return api.OK
}

func (m *model) Read(page int) ([]byte, api.Errno) {
	if page < 0 || page >= m.pages {
		return nil, api.ErrArg
	}
	var b []byte
	err := m.operate(api.Touch{Op: 0, Page: page, Length: m.size}, func(number int) {
		b = m.lay(page, 0)
		for _, f := range m.faults {
			if f.At == number && f.Kind == 0 && f.Byte >= 0 && f.Byte < m.size {
				b[f.Byte] = b[f.Byte]&^f.By | ^b[f.Byte]&f.By
			}
			if f.At == number && f.Kind == 1 {
				b = m.lay(page, f.Back)
			}
			if f.At == number && f.Kind == 2 && f.Page >= 0 && f.Page < m.pages {
				b = m.lay(f.Page, 0)
			}
		}
	})
	if err != api.OK {
		return nil, err
	}
	return b, api.OK
}

func (m *model) Write(page int, b []byte) api.Errno {
	if page < 0 || page >= m.pages {
		return api.ErrArg
	}
	if len(b) != m.size {
		return api.ErrLength
	}
	touch := api.Touch{Op: 1, Page: page, Length: m.size}
	for i := 0; i < 12 && i < len(b); i++ {
		touch.Head[i] = b[i]
	}
	return m.operate(touch, func(int) {
		m.writes = append(m.writes, struct {
			page int
			b    []byte
		}{page, slices.Clone(b)})
	})
}

func (m *model) Ask() (uint64, api.Errno) {
	v := uint64(0)
	err := m.operate(api.Touch{Op: 2, Length: 8}, func(int) { v = m.register })
	if err != api.OK {
		return 0, err
	}
	return v, api.OK
}

func (m *model) Raise(v uint64) api.Errno {
	answer := api.ErrRegister
	err := m.operate(api.Touch{Op: 3, Length: 8}, func(int) {
		if v > m.register {
			m.register, answer = v, api.OK
		}
	})
	if err != api.OK {
		return err
	}
	return answer
}

// step is a call of a life: op is one of the four operations, or restarting.
type step struct {
	op, page int
	b        []byte
	v        uint64
}

const restarting = 4

type answer struct {
	b   string
	v   uint64
	err api.Errno
}

func (a answer) String() string { return fmt.Sprintf("%x, %d, error %d", a.b, a.v, int(a.err)) }

func (s step) of(l life) (a answer) {
	switch s.op {
	case api.OpRead:
		b, err := l.Read(s.page)
		return answer{b: string(b), err: err}
	case api.OpWrite:
		return answer{err: l.Write(s.page, s.b)}
	case api.OpAsk:
		a.v, a.err = l.Ask()
	case api.OpRaise:
		a.err = l.Raise(s.v)
	default:
		l.Restart()
	}
	return a
}

func drawnSteps(r *rand.Rand, pages, size, n int) []step {
	steps := make([]step, n)
	for i := range steps {
		s := step{op: []int{0, 0, 0, 1, 1, 1, 2, 3, restarting}[r.Intn(9)], page: r.Intn(pages + 1), v: uint64(r.Intn(n))}
		s.b = make([]byte, size)
		switch r.Intn(12) {
		case 0:
			s.page = -1
		case 1:
			s.page = pages
		case 2:
			s.b = make([]byte, size+1-2*r.Intn(2))
		}
		r.Read(s.b)
		steps[i] = s
	}
	return steps
}

func drawnFaults(r *rand.Rand, pages, size, n int) []api.Fault {
	faults := make([]api.Fault, r.Intn(n))
	for i := range faults {
		faults[i] = api.Fault{At: r.Intn(n+2) - 1, Kind: r.Intn(5), Page: r.Intn(pages+2) - 1, Byte: r.Intn(size+2) - 1, By: uint8(r.Intn(256)), Back: r.Intn(6) - 1}
	}
	return faults
}

func checkAlike(t *testing.T, got, want life) {
	t.Helper()
	if got.Ops() != want.Ops() || got.Down() != want.Down() || got.Pages() != want.Pages() || got.Size() != want.Size() {
		t.Fatalf("%d operations, down %t, want %d, %t", got.Ops(), got.Down(), want.Ops(), want.Down())
	}
	if !slices.Equal(got.Log(), want.Log()) {
		t.Fatalf("the log = %v, want %v", got.Log(), want.Log())
	}
	for page := -1; page <= want.Pages(); page++ {
		if !slices.Equal(got.Lies(page), want.Lies(page)) {
			t.Fatalf("Lies(%d) = %v, want %v", page, got.Lies(page), want.Lies(page))
		}
	}
}

var sizes = []int{1, 3, 11, 12, 13, 40}

// P11.1 to P11.6: drawn lives, with faults of all kinds, against the model.
func TestDrawnLives(t *testing.T) {
	for seed := range 400 {
		r := rand.New(rand.NewSource(int64(seed)))
		pages, size := r.Intn(4), sizes[seed%len(sizes)]
		faults := drawnFaults(r, pages, size, 80)
		h := hostOf(t, pages, size, faults...)
		m := &model{pages: pages, size: size, faults: faults}
		for i, s := range drawnSteps(r, pages, size, 120) {
			if got, want := s.of(h), s.of(m); got != want {
				t.Fatalf("life %d, call %d, %v: %v, want %v", seed, i, s, got, want)
			}
			checkAlike(t, h, m)
		}
	}
}

// spoils tells whether a fault is of the kinds 0 to 2.
func spoils(f api.Fault) bool { return f.Kind <= 2 }

// P11.6: two lives, one without the faults of the kinds 0 to 2: but for the reads that these befall all is the same.
func TestSpoiltReadsAloneAreSpoilt(t *testing.T) {
	for seed := range 200 {
		r := rand.New(rand.NewSource(int64(1000 + seed)))
		pages, size := 1+r.Intn(4), sizes[seed%len(sizes)]
		faults := drawnFaults(r, pages, size, 60)
		spoilt := hostOf(t, pages, size, faults...)
		honest := hostOf(t, pages, size, slices.DeleteFunc(slices.Clone(faults), spoils)...)
		for i, s := range drawnSteps(r, pages, size, 100) {
			number := honest.Ops()
			befallen := slices.ContainsFunc(faults, func(f api.Fault) bool { return spoils(f) && f.At == number })
			got, want := s.of(spoilt), s.of(honest)
			if s.op == api.OpRead && befallen {
				got.b, want.b = "", ""
			}
			if got != want {
				t.Fatalf("life %d, call %d, %v: %v, want %v", seed, i, s, got, want)
			}
			checkAlike(t, spoilt, honest)
		}
	}
}

// P11.6: a read that no fault befalls tells what was written last, wherever the power went in between.
func TestReadsTellWhatLies(t *testing.T) {
	for seed := range 100 {
		r := rand.New(rand.NewSource(int64(2000 + seed)))
		pages, size := 1+r.Intn(4), sizes[seed%len(sizes)]
		faults := slices.DeleteFunc(drawnFaults(r, pages, size, 60), spoils)
		h, held := hostOf(t, pages, size, faults...), uint64(0)
		for i, s := range drawnSteps(r, pages, size, 100) {
			lies := string(h.Lies(s.page))
			a := s.of(h)
			if s.op == api.OpRead && a.err == api.OK && a.b != lies {
				t.Fatalf("life %d, call %d: Read = %q, want %q", seed, i, a.b, lies)
			}
			if s.op == api.OpAsk && a.err == api.OK {
				if a.v < held {
					t.Fatalf("life %d, call %d: the register fell from %d to %d", seed, i, held, a.v)
				}
				held = a.v
			}
		}
	}
}

func headless(log []api.Touch) []api.Touch {
	for i := range log {
		log[i].Head = api.Nonce{}
	}
	return log
}

// P11.6: the log, but for the heads, does not hang on what is written, read or raised.
func TestTheLogHangsOnCallsAlone(t *testing.T) {
	for seed := range 100 {
		r := rand.New(rand.NewSource(int64(3000 + seed)))
		pages, size := 1+r.Intn(4), sizes[seed%len(sizes)]
		faults := drawnFaults(r, pages, size, 60)
		one, other := hostOf(t, pages, size, faults...), hostOf(t, pages, size, faults...)
		for _, s := range drawnSteps(r, pages, size, 100) {
			s.of(one)
			s.b, s.v = slices.Clone(s.b), r.Uint64()
			r.Read(s.b)
			s.of(other)
			if one.Ops() != other.Ops() || one.Down() != other.Down() || !slices.Equal(headless(one.Log()), headless(other.Log())) {
				t.Fatalf("life %d: the logs are unlike: %v, %v", seed, one.Log(), other.Log())
			}
		}
	}
}
