package journal

import (
	"bytes"
	"slices"

	"estuary/api"
)

// file is a file's two rows of bytes. What they have is never written to again, so that both, and those of Forks, have memory in common; only behind what is read there may be room, for this file alone.
type file struct {
	now, durable []byte
}

func fileOf(x api.Image) file {
	return file{now: bytes.Clone(x.Now), durable: bytes.Clone(x.Durable)}
}

func (f file) image(name string) api.Image {
	return api.Image{Name: name, Durable: bytes.Clone(f.durable), Now: bytes.Clone(f.now)}
}

// fork is another one of the same, without the room.
func (f file) fork() file {
	f.now = slices.Clip(f.now)
	return f
}

// size is how many bytes of the disk it takes.
func (f file) size() int { return max(len(f.now), len(f.durable)) }

// cutOpen tells whether something durable was cut off, and not synced.
func (f file) cutOpen() bool { return !bytes.HasPrefix(f.now, f.durable) }

// loose is what is not durable, where no cut is open.
func (f file) loose() []byte {
	if f.cutOpen() {
		return nil
	}
	return f.now[len(f.durable):]
}

func (f file) longer(b []byte) file {
	f.now = append(f.now, b...)
	return f
}

// shorter has so many bytes. What was cut off is no room for more: it may be durable, or a Fork's.
func (f file) shorter(n int) file {
	f.now = f.now[:n:n]
	return f
}

func (f file) synced() file {
	f.durable = f.now
	return f
}

// mayMeet tells whether a crash can leave what a fate says: no more than there was.
func (f file) mayMeet(x api.Fate) bool {
	return x.Keep >= 0 && len(x.Junk) <= len(f.loose())-x.Keep
}

// crashed is what a crash leaves, by a fate that it may meet; the zero fate leaves what is durable. It is in memory of its own, as more may be written behind it.
func (f file) crashed(x api.Fate) file {
	b := slices.Concat(f.durable, f.loose()[:x.Keep], x.Junk)
	return file{now: b, durable: b}
}
