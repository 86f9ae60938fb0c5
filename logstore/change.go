package logstore

import (
	"slices"

	"carillon/api"
	"carillon/segment"
)

// become has the log be in another state, by writing the manifest of it. If the disk refuses, the log is as the manifest that is there says.
func (l *Log) become(next state) (err api.Errno) {
	was := l.state
	defer func() {
		if err != api.OK {
			l.state = was
		}
	}()
	l.state = next
	return l.writeManifest(l.manifest())
}

// begin lays an empty log, where there is no manifest.
func (l *Log) begin() api.Errno {
	err := l.removeStrays()
	if err != api.OK {
		return err
	}
	first := api.Segment{}
	err = l.lay(l.segmentName(first), "")
	if err != api.OK {
		return err
	}
	return l.become(state{segments: []api.Segment{first}})
}

// takeUp has the log be as a manifest says, and the segments' files; what a call that was broken off left behind goes.
func (l *Log) takeUp(manifest string) api.Errno {
	var ok bool
	l.state, ok = stateOf(manifest)
	if !ok {
		return api.ErrForm
	}
	known := append(l.segmentNames(l.segments), l.manifestName())
	err := l.removeStrays(known...)
	if err != api.OK {
		return err
	}
	return l.takeUpSegments()
}

func (l *Log) takeUpSegments() (err api.Errno) {
	i := 0

next:
	if i == len(l.segments)-1 {
		return l.takeUpActive()
	}
	err = l.takeUpClosed(i)
	if err != api.OK {
		return err
	}
	i++
	goto next
}

// takeUpClosed wants the closed segment i whole: it was synced ahead of its being closed.
func (l *Log) takeUpClosed(i int) api.Errno {
	text, err := l.readSegment(i)
	if err != api.OK {
		return err
	}
	records, _, err := segment.Scan(l.segments[i].Base, text)
	if err != api.OK || !l.fit(i, records) {
		return api.ErrForm
	}
	l.segments[i].Size = len(text)
	return api.OK
}

// takeUpActive cuts off what a crash may have left of a record at the end of the active segment.
func (l *Log) takeUpActive() api.Errno {
	text, err := l.readSegment(len(l.segments) - 1)
	if err != api.OK {
		return err
	}
	records, good, _ := segment.Scan(l.active().Base, text)
	if good < len(text) {
		err = l.cutActive(good)
		if err != api.OK {
			return err
		}
	}
	l.active().Size = good
	if len(records) > 0 {
		l.next = records[len(records)-1].Offset + 1
	}
	return api.OK
}

func (l *Log) cutActive(size int) api.Errno {
	name := l.segmentName(*l.active())
	err := l.disk.Truncate(name, size)
	if err != api.OK {
		return err
	}
	return l.disk.Sync(name)
}

// readSegment tells the bytes of the segment i, which the manifest says is there.
func (l *Log) readSegment(i int) (string, api.Errno) {
	text, err := l.disk.Read(l.segmentName(l.segments[i]))
	if err == api.ErrNone {
		return "", api.ErrForm
	}
	return text, err
}

// closeActive has a new segment, of that Base, be the active one; the one that was is synced ahead of it, as a closed one must be whole.
func (l *Log) closeActive(base int) api.Errno {
	err := l.Sync()
	if err != api.OK {
		return err
	}
	fresh := api.Segment{Base: base}
	err = l.lay(l.segmentName(fresh), "")
	if err != api.OK {
		return err
	}
	return l.become(state{low: l.low, segments: append(slices.Clone(l.segments), fresh)})
}
