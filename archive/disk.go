package archive

import "sync"

const (
	sectorSize  = 64
	fewSectors  = 1
	mostSectors = 4096
)

// sector is an array, so that a disk shares no memory with what it is given or tells.
type sector [sectorSize]byte

// write is one that waits.
type write struct {
	at   int
	data sector
}

// Disk is a stand-in for a disk (P4).
type Disk struct {
	lock    sync.Mutex
	safe    []sector
	waiting []write     // as they came
	last    map[int]int // of each sector that is waited for: the place of its last write
	fuse    int         // at which operation from now on the disk goes down; 0: none is lit
	down    bool
}

// NewDisk makes one (P4).
func NewDisk(sectors int) *Disk {
	sectors = min(max(sectors, fewSectors), mostSectors)
	return &Disk{safe: make([]sector, sectors), last: map[int]int{}}
}

// Sectors tells how many it has (P4).
func (d *Disk) Sectors() int { return len(d.safe) }

// Read tells a sector (P4).
func (d *Disk) Read(at int) (string, error) {
	d.lock.Lock()
	defer d.lock.Unlock()
	if !d.has(at) {
		return "", ErrArg
	}
	data := d.safe[at]
	if place, ok := d.last[at]; ok {
		data = d.waiting[place].data
	}
	return string(data[:]), nil
}

// Write changes a sector (P4).
func (d *Disk) Write(at int, data string) error {
	d.lock.Lock()
	defer d.lock.Unlock()
	if !d.has(at) || len(data) != sectorSize {
		return ErrArg
	}
	return d.operate(func() {
		w := write{at: at}
		copy(w.data[:], data)
		d.last[at] = len(d.waiting)
		d.waiting = append(d.waiting, w)
	})
}

// Flush makes all that was written safe (P4).
func (d *Disk) Flush() error {
	d.lock.Lock()
	defer d.lock.Unlock()
	return d.operate(func() {
		for _, w := range d.waiting {
			d.safe[w.at] = w.data
		}
		d.forget()
	})
}

// Fuse lets the disk go down later (P4).
func (d *Disk) Fuse(n int) {
	d.lock.Lock()
	defer d.lock.Unlock()
	d.fuse = max(n, 0)
}

// Crash loses what is not safe, but for those writes (P4).
func (d *Disk) Crash(keep ...int) {
	d.lock.Lock()
	defer d.lock.Unlock()
	for _, place := range keep {
		if place >= 0 && place < len(d.waiting) {
			w := d.waiting[place]
			d.safe[w.at] = w.data
		}
	}
	d.forget()
	d.fuse, d.down = 0, false
}

// Waiting tells how many writes are not safe (P4).
func (d *Disk) Waiting() int {
	d.lock.Lock()
	defer d.lock.Unlock()
	return len(d.waiting)
}

func (d *Disk) has(at int) bool { return at >= 0 && at < len(d.safe) }

// operate does an operation if the disk is up and no fuse ends at it.
func (d *Disk) operate(do func()) error {
	if d.fuse > 0 {
		d.fuse--
		d.down = d.down || d.fuse == 0
	}
	if d.down {
		return ErrDown
	}
	do()
	return nil
}

// forget lets go of the waiting writes: they are safe, or lost.
func (d *Disk) forget() {
	clear(d.last)
	d.waiting = nil
}
