package logstore

import (
	"slices"
	"strconv"
	"strings"

	"carillon/api"
	"carillon/disk"
)

// Behind the topic's name: the manifest, and what becomes it once it is all there.
const (
	manifestEnd = ".m"
	draftEnd    = ".t"
)

// files are those of a topic, on a disk that may have others too.
type files struct {
	disk  *disk.Disk
	topic string
}

func isTopic(s string) bool {
	for i := range len(s) {
		if (s[i] < 'a' || s[i] > 'z') && (s[i] < '0' || s[i] > '9') {
			return false
		}
	}
	return 1 <= len(s) && len(s) <= api.MaxWord
}

func (f files) manifestName() string {
	return f.topic + manifestEnd
}

func (f files) segmentName(s api.Segment) string {
	return f.topic + "." + strconv.Itoa(s.Base) + "." + strconv.Itoa(s.Gen)
}

func (f files) segmentNames(l []api.Segment) []string {
	names := make([]string, len(l))
	for i, s := range l {
		names[i] = f.segmentName(s)
	}
	return names
}

// has tells whether a file is of the topic: its name has more behind the point.
func (f files) has(name string) bool {
	more, ok := strings.CutPrefix(name, f.topic+".")
	return ok && more != ""
}

// lay makes a file anew, and has its bytes last; that there is one is DirSync's.
func (f files) lay(name, bytes string) api.Errno {
	err := f.remove(name)
	if err == api.OK {
		err = f.disk.Create(name)
	}
	if err == api.OK && bytes != "" {
		err = f.disk.Append(name, bytes)
	}
	if err == api.OK {
		err = f.disk.Sync(name)
	}
	return err
}

// writeManifest puts a manifest in the place of the one that is there, so that a crash leaves the one or the other.
func (f files) writeManifest(bytes string) api.Errno {
	draft := f.topic + draftEnd
	err := f.lay(draft, bytes)
	if err == api.OK {
		err = f.disk.Rename(draft, f.manifestName())
	}
	if err == api.OK {
		err = f.disk.DirSync()
	}
	return err
}

// remove takes files away, one behind the other; one that is not there need not go.
func (f files) remove(names ...string) (err api.Errno) {
next:
	if len(names) == 0 {
		return api.OK
	}
	err = f.disk.Remove(names[0])
	if err != api.OK && err != api.ErrNone {
		return err
	}
	names = names[1:]
	goto next
}

// removeStrays takes away the files of the topic that are not among these, rising.
func (f files) removeStrays(known ...string) api.Errno {
	names, err := f.disk.List()
	if err != api.OK {
		return err
	}
	return f.remove(slices.DeleteFunc(names, func(name string) bool {
		return !f.has(name) || slices.Contains(known, name)
	})...)
}
