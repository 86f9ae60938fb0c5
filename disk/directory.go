package disk

import (
	"maps"
	"slices"
	"strings"
)

// directory says which files there are: those now, those that last, and what was done since, which may be lost.
type directory struct {
	now     map[string]*file
	lasting map[string]*file
	since   []nameAct // done again on lasting, in their order, they make it now
}

// nameAct is a Create, a Rename or a Remove. It is done at once on the names of now, and perhaps again, later, on those that last.
type nameAct struct {
	do func(files map[string]*file)
}

func emptyDirectory() directory {
	return directory{now: map[string]*file{}, lasting: map[string]*file{}}
}

func creating(name string) nameAct {
	name = strings.Clone(name) // as nothing is kept that was handed in
	f := &file{}               // made here, so that the act done again tells of the same file, and not of another one
	return nameAct{do: func(files map[string]*file) { files[name] = f }}
}

func renaming(from, to string) nameAct {
	from, to = strings.Clone(from), strings.Clone(to)
	return nameAct{do: func(files map[string]*file) {
		f := files[from]
		delete(files, from) // ahead of the other name, as both may be one
		files[to] = f
	}}
}

func removing(name string) nameAct {
	name = strings.Clone(name)
	return nameAct{do: func(files map[string]*file) { delete(files, name) }}
}

func (r *directory) act(a nameAct) {
	a.do(r.now)
	r.since = append(r.since, a)
}

// settle has the first acts since last; there is no more to be lost then.
func (r *directory) settle(acts int) {
	acts = min(max(acts, 0), len(r.since))
	for _, a := range r.since[:acts] {
		a.do(r.lasting)
	}
	r.since = nil
}

func (r *directory) settleAll() {
	r.settle(len(r.since))
}

// crash loses what was done behind the first acts.
func (r *directory) crash(acts int) {
	r.settle(acts)
	r.now = maps.Clone(r.lasting)
}

func (r *directory) names() []string {
	return slices.Sorted(maps.Keys(r.now))
}
