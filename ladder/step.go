package ladder

import (
	"tryst/api"
	"tryst/field"
)

// ratio stands for x / z, so that one division, at the very end, is enough.
type ratio struct {
	x, z field.Elem
}

// key leans on Invert of 0 being 0: where z is 0, so is the key.
func (r ratio) key() api.Key { return r.x.Mul(r.z.Invert()).Bytes() }

// swap goes by the lowest bit of m alone, as field.Swap does.
func swap(m uint64, p, q ratio) (ratio, ratio) {
	p.x, q.x = field.Swap(m, p.x, q.x)
	p.z, q.z = field.Swap(m, p.z, q.z)
	return p, q
}

// step has the chapter's letters: p is x2 / z2, and q is x3 / z3.
func step(x1 field.Elem, p, q ratio) (ratio, ratio) {
	a, b := p.x.Add(p.z), p.x.Sub(p.z)
	c, d := q.x.Add(q.z), q.x.Sub(q.z)
	da, cb := d.Mul(a), c.Mul(b)
	aa, bb := a.Square(), b.Square()
	e := aa.Sub(bb)
	p = ratio{aa.Mul(bb), e.Mul(aa.Add(e.Times(curveConstant)))}
	q = ratio{da.Add(cb).Square(), x1.Mul(da.Sub(cb).Square())}
	return p, q
}
