package desk

import (
	"strconv"

	"nuncio/api"
	"nuncio/bisect"
	"nuncio/blake"
)

// now is the clock as a light client has it.
func (d *Desk) now() float64 { return float64(d.world.Clock()) }

// look begins to watch a chain, from its first block.
func (d *Desk) look(o order) (string, api.Errno) {
	c := d.world.Chain(o.at)
	root, e := c.Light(1)
	if e != api.OK {
		return "", e
	}
	options := api.Options{
		Level:  float64(o.numbers[0]) / float64(o.numbers[1]), // a NaN or an infinity, if that is 0: then the options are not right
		Period: float64(o.numbers[2]),
		Drift:  float64(o.numbers[3]),
	}
	watch, e := bisect.New(root, d.now(), options)
	if e != api.OK {
		return "", e
	}
	d.watch, d.watched = watch, c
	return done, api.OK
}

func (d *Desk) follow(o order) (string, api.Errno) {
	if d.watch == nil {
		return "", api.ErrFetch
	}
	if e := d.watch.Goal(o.numbers[0]); e != api.OK {
		return "", e
	}
	for d.watch.Want() != 0 {
		if e := d.fetch(); e != api.OK {
			return "", e
		}
	}
	return strconv.Itoa(d.watch.Fetches()), api.OK
}

// fetch gives the watch the light block that it wants.
func (d *Desk) fetch() api.Errno {
	l, e := d.watched.Light(d.watch.Want())
	if e != api.OK {
		return e
	}
	return d.watch.Give(l, d.now())
}

func (d *Desk) trusted(order) (string, api.Errno) {
	if d.watch == nil {
		return "", api.ErrFetch
	}
	var heights []int
	for _, l := range d.watch.Store() {
		heights = append(heights, l.Header.Height)
	}
	return spaced(heights), api.OK
}

func (d *Desk) header(o order) (string, api.Errno) {
	if d.watch == nil {
		return "", api.ErrFetch
	}
	for _, l := range d.watch.Store() {
		if l.Header.Height == o.numbers[0] {
			return blake.Text(l.Commit.Block), api.OK
		}
	}
	return "", api.ErrFetch
}
