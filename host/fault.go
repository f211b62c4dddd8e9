package host

import "tryst/api"

// What the power does at an operation.
const (
	stays = iota
	goesAhead
	goesBehind
)

func allKnown(faults []api.Fault) bool {
	for _, fault := range faults {
		if fault.Kind < api.FtTurn || fault.Kind > api.FtBehind {
			return false
		}
	}
	return true
}

// byOperation leaves out what can never befall, and tells how many writes back the others look at most.
func byOperation(faults []api.Fault) (map[int][]api.Fault, int) {
	coming, depth := map[int][]api.Fault{}, 0
	for _, fault := range faults {
		if fault.At < 0 {
			continue
		}
		coming[fault.At] = append(coming[fault.At], fault)
		if fault.Kind == api.FtStale {
			depth = max(depth, fault.Back)
		}
	}
	return coming, depth
}

// befalling takes the faults of the operation that comes now out of those that are to come, in the order of the list.
func (h *Host) befalling() []api.Fault {
	faults := h.coming[h.ops]
	delete(h.coming, h.ops)
	return faults
}

// powerUnder puts FtBefore above FtBehind, wherever in the list they stand.
func powerUnder(faults []api.Fault) int {
	power := stays
	for _, fault := range faults {
		switch fault.Kind {
		case api.FtBefore:
			return goesAhead
		case api.FtBehind:
			power = goesBehind
		}
	}
	return power
}

// spoilt is what a read answers. Each fault is laid on a copy, so that what lies there stays as it was written.
func (h *Host) spoilt(page int, faults []api.Fault) []byte {
	b := h.ago(page, 0)
	for _, fault := range faults {
		switch fault.Kind {
		case api.FtTurn:
			turn(b, fault)
		case api.FtStale:
			b = h.ago(page, fault.Back)
		case api.FtMove:
			if h.has(fault.Page) {
				b = h.ago(fault.Page, 0)
			}
		}
	}
	return b
}

func turn(b []byte, fault api.Fault) {
	if fault.Byte >= 0 && fault.Byte < len(b) {
		b[fault.Byte] ^= fault.By
	}
}
