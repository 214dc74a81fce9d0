package keep

import (
	"tabularium/api"
	"tabularium/disk"
	"tabularium/slog"
	"tabularium/vec"
)

const (
	// heads is how many sectors of heads there are, halves how many halves behind them: of each one for the even gens, and one for the odd ones.
	heads  = 2
	halves = 2
	// minHalf is how many sectors a half has at the least: fewer are no region of a log.
	minHalf = 2
	// firstGen is the gen of a host that was just made; 0 is no gen, so that a sector of bytes 0 is no head.
	firstGen = 1
	// genAgain is where a head has its gen a second time, endAt where it ends: over bytes 0 a torn head never has its end.
	genAgain = 59
	endAt    = 63
	headEnd  = 0xa5
)

// Half is where a half of d begins, and how many sectors it has (P18.1).
func Half(d *disk.Disk, k int) (from, n int) {
	n = (d.Len() - heads) / halves
	if k < 0 || k >= halves || n < minHalf {
		return 0, 0
	}
	return heads + k*n, n
}

// Super is the head of gen (P18.1).
func Super(gen uint32) [64]byte {
	s := [64]byte{endAt: headEnd}
	copy(s[:], vec.Bytes(gen))
	copy(s[genAgain:], vec.Bytes(gen))
	return s
}

// genOf is the gen whose head s is, 0 if it is none (P18.1).
func genOf(s [64]byte) uint32 {
	gen := vec.Words(s[:])[0]
	if s != Super(gen) {
		return 0
	}
	return gen
}

// placeOf is which half is that of gen, and which sector has its head (P18.1).
func placeOf(gen uint32) int {
	return int(gen % halves)
}

// hasHalves says whether d is large enough for a host.
func hasHalves(d *disk.Disk) bool {
	_, n := Half(d, 0)
	return n > 0
}

// newest is the greatest gen that has a head on d (P18.2).
func newest(d *disk.Disk) (uint32, api.Errno) {
	var gen uint32
	for i := range heads {
		s, e := d.Read(i)
		if e != api.OK {
			return 0, e
		}
		gen = max(gen, genOf(s))
	}
	if gen == 0 {
		return 0, api.ErrLog
	}
	return gen, api.OK
}

// formatHalf makes the half of gen one without records.
func formatHalf(d *disk.Disk, gen uint32) api.Errno {
	from, n := Half(d, placeOf(gen))
	return slog.Format(d, from, n, gen)
}

// openHalf is the log that stands in the half of gen.
func openHalf(d *disk.Disk, gen uint32) (*slog.Log, api.Errno) {
	from, n := Half(d, placeOf(gen))
	return slog.Open(d, from, n, gen)
}
