package sys_test

import (
	"bytes"
	"strings"
	"testing"

	"levee/api"
	"levee/sys"
)

// lived is a machine of some shape that has had a life of so many events.
func lived(t *testing.T, r *dice, events int) *life {
	t.Helper()
	g := api.Geo{Group: []int{16, 20, 28, 40}[r.below(4)], Inodes: []int{4, 8, 12}[r.below(3)], Groups: 1 + r.below(3)}
	l := newLife(t, r, 2+g.Group*(g.Groups+r.below(3))+r.below(16), g)
	for range events {
		l.happens()
	}
	return l
}

// spoiled is an image of which some bytes are others; the superblocks stay.
func spoiled(r *dice, image []byte) []byte {
	image = bytes.Clone(image)
	for range 1 + r.below(60) {
		at := 2*api.Block + r.below(len(image)-2*api.Block)
		switch r.below(4) {
		case 0:
			image[at] = byte(r.below(256))
		case 1:
			image[at] ^= 1 << r.below(8)
		case 2:
			from := 2*api.Block + r.below(len(image)-2*api.Block)
			copy(image[at&^63:][:64], image[from&^63:][:64])
		default:
			from := 2*api.Block + r.below(len(image)-2*api.Block)
			copy(image[at&^31:][:32], image[from&^31:][:32])
		}
	}
	return image
}

// P29.3, P4: whatever stands on the disk: behind Repair and Mount each call answers what a tree in a list does, that began with what was found.
func TestSpoiledLives(t *testing.T) {
	r := dice(521288629)
	for run := range 60 {
		l := lived(t, &r, 200)
		s, e := sys.Load(spoiled(&r, l.s.Image()))
		if e != api.OK {
			t.Fatal("Load", e)
		}
		l.s, l.holes = s, true
		l.answers(sys.Event{Kind: sys.Repair}, api.OK)
		l.answers(sys.Event{Kind: sys.Mount}, api.OK)
		l.tree = l.found()
		l.begins()
		for step := range 200 {
			l.happens()
			if t.Failed() {
				t.Fatalf("run %d, step %d:\n%s", run, step, strings.Join(l.log, "\n"))
			}
		}
	}
}

// Rule 1, P29.1: whatever stands on the disk, and is not put right: each event ends, and beside an error all else is zero.
func TestNotPutRight(t *testing.T) {
	r := dice(362436069)
	mounted := 0
	for run := range 120 {
		l := lived(t, &r, 80)
		image := spoiled(&r, l.s.Image())
		if run%4 == 0 {
			for i := range image {
				image[i] = byte(r.below(256))
			}
		}
		if run%4 == 1 {
			l.s.Do(sys.Event{Kind: sys.Crash, Pick: l.picks()})
			image = l.s.Image()
		}
		s, _ := sys.Load(image)
		for range 300 {
			e := l.something()
			up := s.Up()
			if e.Kind == sys.Repair && r.below(4) > 0 {
				e.Kind = sys.Mount
			}
			if a := s.Do(e); a.Errno != api.OK && !same(a, sys.Answer{Errno: a.Errno, Over: a.Over}) {
				t.Fatalf("run %d, %v: %v", run, e, a)
			}
			if !up && s.Up() {
				mounted++
			}
		}
	}
	if mounted < 50 {
		t.Errorf("%d were mounted", mounted)
	}
}

// P29.4: two machines to which the same happens answer the same, and have the same bytes on their disks.
func TestTwoMachines(t *testing.T) {
	for seed := range 6 {
		var logs, images [2]string
		for k := range logs {
			r := dice(99 + 1000*seed)
			l := lived(t, &r, 500)
			logs[k], images[k] = strings.Join(l.log, "\n"), string(l.s.Image())
		}
		if logs[0] != logs[1] || images[0] != images[1] {
			t.Error("to two machines the same happens, and they are not the same")
		}
	}
}

// P29.4: a machine that is made of another one's bytes answers as that one does when it is mounted again, if all was safe.
func TestLoadedMachine(t *testing.T) {
	for seed := range 6 {
		r := dice(7 + 1000*seed)
		l := lived(t, &r, 300)
		l.crash()
		other := load(t, l.s.Image())
		does(t, other, sys.Event{Kind: sys.Mount})
		for range 300 {
			e := l.something()
			want := l.s.Do(e)
			answers(t, other, e, want)
		}
		if !bytes.Equal(other.Image(), l.s.Image()) {
			t.Error("it has other bytes")
		}
	}
}
