package image_test

import (
	"bytes"
	"math"
	"math/rand"
	"slices"
	"testing"

	"quadrille/api"
	"quadrille/image"
	"quadrille/slab"
)

func TestExample(t *testing.T) {
	s := made(t, 10)
	c, e := image.Open(s, 0, 10, 1)
	answers(t, "Open", e, api.OK)
	answers(t, "Put", c.Put(image.Image{Job: 1, Ver: 1, Credit: 5, Blobs: [][]byte{[]byte("a")}}), api.OK)
	newer := image.Image{Job: 1, Ver: 2, Credit: 9, Blobs: [][]byte{[]byte("b")}}
	answers(t, "Put", c.Put(newer), api.OK)
	answers(t, "Crash", s.Crash(nil, 0), api.OK)
	c, e = image.Open(s, 0, 10, 2)
	answers(t, "Open", e, api.OK)
	if x, e := c.Get(1); e != api.OK || !alike(x, newer) {
		t.Error("Get", x, e)
	}
	answers(t, "Put", c.Put(image.Image{Job: 1, Ver: 2, Credit: 10, Blobs: [][]byte{[]byte("c")}}), api.ErrStale)
}

func TestMaxBlob(t *testing.T) {
	if image.MaxBlob != 103 {
		t.Error("MaxBlob", image.MaxBlob)
	}
}

func TestOpenOfNoughts(t *testing.T) {
	for _, n := range []int{1, 2, 3, 100, api.MaxSectors - 1, api.MaxSectors} {
		for _, from := range []int{0, 1, n / 2, n - 1} {
			for _, to := range []int{1, n / 2, n - 1, n} {
				if from < to {
					blank(n, from, to, 0).opened(t, "noughts", made(t, n), 7)
				}
			}
		}
	}
}

// wrongStretches answers a from and a to each that aren't on a slab of n sectors.
func wrongStretches(n int) [][2]int {
	return [][2]int{
		{-1, n}, {-1, 1}, {-n, n}, {math.MinInt, n}, {math.MinInt, math.MaxInt}, {math.MinInt32, 1},
		{0, n + 1}, {n - 1, n + 1}, {0, math.MaxInt}, {1, math.MaxInt32}, {n, n + 1}, {math.MaxInt - 1, math.MaxInt},
		{0, 0}, {1, 1}, {n, n}, {1, 0}, {n, 1}, {n, 0}, {2, -1}, {0, -1}, {0, math.MinInt}, {math.MaxInt, math.MinInt},
		{-1, -1}, {-2, -1}, {-1, 0}, {math.MinInt, math.MinInt}, {math.MaxInt, math.MaxInt}, {n + 1, n + 1}, {n + 1, n},
	}
}

func TestOpenRefused(t *testing.T) {
	s := made(t, 6)
	for _, x := range append(wrongStretches(6), [2]int{0, 1}, [2]int{0, 6}) {
		opensNot(t, "a nil slab", nil, x[0], x[1], api.ErrNone)
	}
	for _, x := range wrongStretches(6) {
		opensNot(t, "no such sectors", s, x[0], x[1], api.ErrArg)
	}
	s.Arm(1)
	s.Flush()
	for _, x := range wrongStretches(6) {
		opensNot(t, "off, no such sectors", s, x[0], x[1], api.ErrArg)
	}
	for _, x := range [][2]int{{0, 1}, {0, 6}, {5, 6}, {2, 4}} {
		opensNot(t, "off", s, x[0], x[1], api.ErrDown)
	}
	s.Crash(nil, 0)
	blank(6, 2, 4, 0).opened(t, "on again", s, 1)
}

func TestPutOfAllSizes(t *testing.T) {
	for ranks := 1; ranks <= api.MaxNodes; ranks++ {
		for _, n := range []int{0, 1, 50, image.MaxBlob - 1, image.MaxBlob} {
			s, c, m := fresh(t, 2*api.MaxNodes+2)
			puts(t, "Put", s, c, m, one(7, 1, slices.Repeat([]int{n}, ranks)...))
			puts(t, "Put", s, c, m, one(7, 2, slices.Repeat([]int{image.MaxBlob - n}, ranks)...))
			m.opened(t, "opened", s, 5)
		}
	}
	for n := range image.MaxBlob + 1 {
		s, c, m := fresh(t, 5)
		puts(t, "Put", s, c, m, one(7, 1, n, image.MaxBlob-n, n/2))
		m.opened(t, "opened", s, 5)
	}
}

func TestPutOfAllNumbers(t *testing.T) {
	jobs := []uint32{1, 2, 255, 256, 1 << 16, 0x01020304, math.MaxInt32, 1 << 31, math.MaxUint32}
	vers := []uint32{0, 1, 256, 0x01020304, 1 << 31, math.MaxUint32}
	credits := []int{0, 1, 127, 128, 255, 256, 9999, api.MaxWall}
	for _, job := range jobs {
		for _, epoch := range vers {
			for _, ver := range vers {
				s := made(t, 6)
				m := blank(6, 1, 6, 0)
				c := m.opened(t, "fresh", s, epoch)
				credit := credits[(int(job%7)+int(ver%5)+int(epoch%11))%len(credits)]
				puts(t, "Put", s, c, m, image.Image{Job: job, Ver: ver, Credit: credit, Blobs: blobs(3, 4, 0)})
				m.opened(t, "opened", s, epoch)
			}
		}
	}
	for _, credit := range credits {
		s, c, m := fresh(t, 5)
		puts(t, "Put", s, c, m, image.Image{Job: 1, Credit: credit, Blobs: blobs(3, 4)})
		m.opened(t, "opened", s, 5)
	}
}

func TestPutRefused(t *testing.T) {
	s, c, m := fresh(t, 12)
	puts(t, "Put", s, c, m, one(3, 5, 1, 2))
	puts(t, "Put", s, c, m, one(4, 9, 3, 4))
	right := one(3, 6, 8)
	long := blobs(1, 3, image.MaxBlob+1, 3)
	many := make([][]byte, api.MaxNodes+1)
	refused := func(what string, change func(x *image.Image), want api.Errno) {
		t.Helper()
		for _, ver := range []uint32{6, 5, 0} { // whether it is stale, too, or not
			x := right
			x.Ver = ver
			change(&x)
			putsNot(t, what, s, c, m, x, want)
		}
	}
	for _, blobs := range [][][]byte{right.Blobs, long} {
		refused("Job", func(x *image.Image) { x.Job, x.Blobs = 0, blobs }, api.ErrArg)
		for _, credit := range []int{math.MinInt, math.MinInt32, -api.MaxWall, -1, api.MaxWall + 1, 1 << 16, math.MaxUint32, 1 << 32, 1<<32 + 1, math.MaxInt} {
			refused("Credit", func(x *image.Image) { x.Credit, x.Blobs = credit, blobs }, api.ErrArg)
		}
	}
	for _, l := range [][][]byte{nil, {}, many, append(many, long...), make([][]byte, 255), make([][]byte, 256), make([][]byte, 257), make([][]byte, 1<<16+1)} {
		refused("Blobs", func(x *image.Image) { x.Blobs = l }, api.ErrArg)
	}
	for _, n := range []int{image.MaxBlob + 1, image.MaxBlob + 2, 128, 255, 256, 257, 359, 1 << 16} {
		for rank := range api.MaxNodes {
			refused("a blob", func(x *image.Image) {
				x.Blobs = make([][]byte, api.MaxNodes) // there is no room for so many
				x.Blobs[rank] = make([]byte, n)
			}, api.ErrLong)
		}
		refused("its only blob", func(x *image.Image) { x.Blobs = blobs(1, n) }, api.ErrLong)
	}
	m.opened(t, "opened", s, 5)
}

func TestStale(t *testing.T) {
	for _, ver := range []uint32{0, 1, 2, 255, 256, math.MaxInt32, 1 << 31, math.MaxUint32 - 1, math.MaxUint32} {
		s, c, m := fresh(t, 9)
		puts(t, "another job", s, c, m, one(2, math.MaxUint32, 5))
		puts(t, "Put", s, c, m, one(1, ver, 5))
		check := func(c *image.Store) {
			for _, older := range []uint32{0, 1, ver / 2, ver - 1, ver} {
				if older <= ver {
					putsNot(t, "stale", s, c, m, one(1, older, 5), api.ErrStale)
					putsNot(t, "stale, and no room for it", s, c, m, one(1, older, make([]int, api.MaxNodes)...), api.ErrStale)
				}
			}
		}
		check(c)
		check(m.opened(t, "opened", s, 9))
		c = m.opened(t, "opened", s, 10)
		if ver < math.MaxUint32 {
			puts(t, "newer", s, c, m, one(1, ver+1, 5))
			putsNot(t, "stale", s, c, m, one(1, ver, 5), api.ErrStale)
		}
		drops(t, "Drop", s, c, m, 1)
		puts(t, "older, but dropped", s, c, m, one(1, 0, 5))
	}
}

func TestFull(t *testing.T) {
	for ranks := 1; ranks <= api.MaxNodes; ranks++ {
		x := one(1, 1, make([]int, ranks)...)
		s, c, m := fresh(t, ranks)
		putsNot(t, "one too few", s, c, m, x, api.ErrFull)
		s, c, m = fresh(t, ranks+1)
		puts(t, "just enough", s, c, m, x)
		putsNot(t, "another job", s, c, m, one(2, 1, 0), api.ErrFull)
		x.Ver = 2
		putsNot(t, "what it has doesn't count", s, c, m, x, api.ErrFull)
		c = m.opened(t, "opened", s, 9)
		putsNot(t, "opened", s, c, m, x, api.ErrFull)
		s, c, m = fresh(t, 2*ranks+1)
		x.Ver = 1
		puts(t, "Put", s, c, m, x)
		x.Ver = 2
		putsNot(t, "one too few", s, c, m, x, api.ErrFull)
		if ranks > 1 {
			puts(t, "one rank less", s, c, m, one(1, 2, make([]int, ranks-1)...))
		}
		m.opened(t, "opened", s, 9)
	}
}

// TestLeastFreeSectors: holes are filled from below, and the head stands on the last of them.
func TestLeastFreeSectors(t *testing.T) {
	s, c, m := fresh(t, 20)
	for job := uint32(1); job <= 6; job++ {
		puts(t, "Put", s, c, m, one(job, 1, 3, 4))
	}
	drops(t, "Drop", s, c, m, 2)
	puts(t, "newer", s, c, m, one(4, 2, 1))
	drops(t, "Drop", s, c, m, 6)
	puts(t, "over three holes", s, c, m, one(7, 1, 1, 2, 3, 4, 5))
	if at := m.jobs[7].at; !slices.Equal(at, []int{5, 9, 10, 11, 15, 16}) {
		t.Fatal("the model's", at)
	}
	c = m.opened(t, "opened", s, 5)
	drops(t, "Drop", s, c, m, 7)
	drops(t, "Drop", s, c, m, 1)
	puts(t, "over others", s, c, m, one(8, 1, 1, 2, 3, 4, 5))
	m.opened(t, "opened", s, 6)
}

// TestGreatestNumbers: a sector's number has two bytes.
func TestGreatestNumbers(t *testing.T) {
	const n = api.MaxSectors
	m := blank(n, 0, n, 0)
	s := made(t, n)
	c := m.opened(t, "noughts", s, 1)
	for m.left() > 0 {
		ranks := min(api.MaxNodes, m.left()-1)
		x := one(uint32(len(m.jobs)+1), 1, make([]int, ranks)...)
		answers(t, "Put", c.Put(x), api.OK)
		m.put(x)
	}
	m.is(t, "full", s, c)
	putsNot(t, "full", s, c, m, one(1000, 1, 0), api.ErrFull)
	c = m.opened(t, "full, opened", s, 2)
	drops(t, "Drop", s, c, m, 1)
	puts(t, "Put", s, c, m, one(1001, 1, 1, 2, 3))
	m.opened(t, "opened", s, 3)
}

func TestDrop(t *testing.T) {
	s, c, m := fresh(t, 12)
	none := func(what string, jobs ...uint32) {
		t.Helper()
		for _, job := range jobs {
			steps := s.Steps()
			answers(t, what, c.Drop(job), api.ErrNone)
			if s.Steps() != steps {
				t.Fatal(what, "has steps")
			}
			m.is(t, what, s, c)
		}
	}
	none("nothing is there", 0, 1, 2, math.MaxUint32)
	puts(t, "Put", s, c, m, one(1, 1, 3, 4))
	puts(t, "Put", s, c, m, one(2, 1, 5))
	puts(t, "Put", s, c, m, one(math.MaxUint32, 1, 6))
	none("others are", 0, 3, 257, 1<<16+1, math.MaxInt32)
	drops(t, "Drop", s, c, m, 2)
	none("dropped", 2)
	c = m.opened(t, "opened", s, 9)
	none("dropped", 2)
	drops(t, "Drop", s, c, m, math.MaxUint32)
	drops(t, "Drop", s, c, m, 1)
	none("all dropped", 0, 1, 2, math.MaxUint32)
	c = m.opened(t, "opened", s, 10)
	puts(t, "put again", s, c, m, one(1, 1, 3, 4))
	c = m.opened(t, "opened", s, 11)
	drops(t, "Drop", s, c, m, 1)
}

func TestListRises(t *testing.T) {
	r := rand.New(rand.NewSource(3))
	for range 20 {
		s, c, m := fresh(t, 60)
		for k, n := range r.Perm(25) {
			job := uint32(n+1) * 160000001 // some of them above 2^31
			if _, ok := m.jobs[job]; k%2 == 0 && !ok {
				puts(t, "Put", s, c, m, one(job, 1, 1))
			}
		}
		m.opened(t, "opened", s, 9)
	}
}

func TestNilStore(t *testing.T) {
	var c *image.Store
	for _, x := range []image.Image{{}, one(1, 1, 1), one(1, 1, 500), {Job: 1, Credit: -1}} {
		answers(t, "Put", c.Put(x), api.ErrNone)
		answers(t, "Drop", c.Drop(x.Job), api.ErrNone)
		hasNot(t, "nil", c, x.Job)
	}
	if l := c.List(); len(l) != 0 || c.Left() != 0 {
		t.Error("List", l, "Left", c.Left())
	}
}

func TestMemoryIsNotShared(t *testing.T) {
	s, c, m := fresh(t, 12)
	x := one(1, 1, 10, 20)
	room := pattern(90, 5)
	handed := image.Image{Job: 2, Ver: 1, Credit: 3, Blobs: [][]byte{room[:10], room[10:30], room[30:60], {9}}[:3]}
	puts(t, "Put", s, c, m, x)
	want := image.Image{Job: 2, Ver: 1, Credit: 3, Blobs: [][]byte{bytes.Clone(room[:10]), bytes.Clone(room[10:30]), bytes.Clone(room[30:60])}}
	answers(t, "Put", c.Put(handed), api.OK)
	m.put(want).is(t, "Put", s, c)
	if !bytes.Equal(room, pattern(90, 5)) || !alike(handed, want) || handed.Blobs[:4][3][0] != 9 {
		t.Fatal("Put changed what it was handed")
	}
	scribble(room)
	handed.Blobs[0], handed.Blobs[1] = nil, []byte("else")
	m.is(t, "behind a scribble on what was put", s, c)
	check := func(what string, c *image.Store) {
		t.Helper()
		for _, job := range []uint32{1, 2} {
			got, _ := c.Get(job)
			other, _ := c.Get(job)
			for rank := range got.Blobs {
				scribble(got.Blobs[rank])
				for k := range got.Blobs {
					if k > rank && !bytes.Equal(got.Blobs[k], other.Blobs[k]) {
						t.Fatal(what, "two blobs share")
					}
				}
			}
			l := got.Blobs[:cap(got.Blobs)]
			for i := range l {
				l[i] = nil
			}
			if !alike(other, m.jobs[job].x) {
				t.Fatal(what, "two answers share")
			}
		}
		l := c.List()
		l = l[:cap(l)]
		for i := range l {
			l[i] = 77
		}
		m.is(t, what+"behind a scribble on what was told", s, c)
	}
	check("put: ", c)
	check("opened: ", m.opened(t, "opened", s, 9))
}

// TestStoresAreTheirOwn: what one is told is nothing to another one.
func TestStoresAreTheirOwn(t *testing.T) {
	s, c, m := fresh(t, 12)
	r, d, n := fresh(t, 12)
	puts(t, "the one", s, c, m, one(1, 1, 4))
	n.is(t, "the other", r, d)
	r.Arm(1)
	answers(t, "the other", d.Put(one(1, 1, 4)), api.ErrDown)
	puts(t, "the one", s, c, m, one(1, 2, 4))
	drops(t, "the one", s, c, m, 1)
}

// TestAgainstTheModel has stores live through many calls of all sorts, and be opened now and then.
func TestAgainstTheModel(t *testing.T) {
	for seed := range 60 {
		r := rand.New(rand.NewSource(int64(seed)))
		s, c, m := fresh(t, 8+r.Intn(20))
		epoch, vers := m.epoch, map[uint32]uint32{}
		for range 150 {
			job := uint32(1 + r.Intn(5))
			switch r.Intn(8) {
			case 0:
				epoch++
				c = m.opened(t, "opened", s, epoch)
			case 1, 2:
				if _, ok := m.jobs[job]; ok {
					drops(t, "Drop", s, c, m, job)
				} else {
					answers(t, "Drop", c.Drop(job), api.ErrNone)
				}
			default:
				mayPut(t, r, s, c, m, job, vers)
			}
		}
	}
}

// mayPut puts an image of that job, if there is room and it is newer.
func mayPut(t *testing.T, r *rand.Rand, s *slab.Slab, c *image.Store, m *model, job uint32, vers map[uint32]uint32) {
	t.Helper()
	lengths := make([]int, 1+r.Intn(6))
	for k := range lengths {
		lengths[k] = r.Intn(image.MaxBlob + 1)
	}
	if has, ok := m.jobs[job]; ok && r.Intn(4) == 0 {
		putsNot(t, "stale", s, c, m, one(job, has.x.Ver-min(has.x.Ver, uint32(r.Intn(3))), lengths...), api.ErrStale)
		return
	}
	vers[job] += uint32(1 + r.Intn(3)) // no version comes twice
	x := one(job, vers[job], lengths...)
	if len(lengths)+1 > m.left() {
		putsNot(t, "full", s, c, m, x, api.ErrFull)
		return
	}
	puts(t, "Put", s, c, m, x)
}
