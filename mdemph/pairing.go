package mdemph

// rest is a run, and what is left of it.
type rest struct {
	Run
	from, to int // the bytes that are left
}

// left is how many bytes are left.
func (r *rest) left() int { return r.to - r.from }

// kind is all of a run that closes by which others fit.
type kind struct {
	char  byte
	opens bool
	third int // how many bytes it has, modulo 3
}

// pairing goes through runs.
type pairing struct {
	open  []*rest      // the runs that may open, and are not barred
	none  map[kind]int // ahead of which place no run stands that fits one that closes
	pairs []Pair
}

// take takes the next run: it makes pairs with those ahead that fit, and may open for those behind.
func (p *pairing) take(r *rest) {
	for r.Closes && r.left() > 0 && p.find(r) {
		first := p.open[len(p.open)-1]
		p.pair(first, r)
		if first.left() == 0 {
			p.open = p.open[:len(p.open)-1]
		}
	}
	if r.Opens && r.left() > 0 {
		p.open = append(p.open, r)
	}
}

// find cuts off the runs that are nearer than the nearest one that fits, and tells whether one does.
func (p *pairing) find(r *rest) bool {
	k := kind{r.Char, r.Opens, r.N % 3}
	for i := len(p.open) - 1; i >= 0 && p.open[i].At >= p.none[k]; i-- {
		if fit(p.open[i], r) {
			p.open = p.open[:i+1]
			return true
		}
	}
	// Those that are ahead now need not be asked again for one of this kind.
	p.none[k] = r.At
	return false
}

// fit tells whether first, which may open, fits second, which closes.
func fit(first, second *rest) bool {
	if first.Char != second.Char {
		return false
	}
	if !first.Closes && !second.Opens {
		return true
	}
	return (first.N+second.N)%3 != 0 || first.N%3 == 0
}

// pair makes a pair of bytes that are left of both.
func (p *pairing) pair(first, second *rest) {
	n := min(first.left(), second.left(), 2)
	first.to -= n
	second.from += n
	p.pairs = append(p.pairs, Pair{From: first.to, To: second.from, Strong: n == 2})
}
