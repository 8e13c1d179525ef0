package plan

import (
	"bytes"
	"strings"

	"beadle/api"
	"beadle/path"
	"beadle/reform"
	"beadle/tree"
)

const (
	root       = "/"
	anyVersion = -1
)

// draft is what the deed of a does, without all that says whose it is; nothing is changed by it.
func (p *Plan) draft(a api.Ask, z api.Zxid) (d api.Deed) {
	defer func() {
		if why := recover(); why != nil {
			// Only an Errno is a giving up: anything else is a fault of the program's own, and may not pass for an error of the call.
			d = refusal(why.(api.Errno))
		}
	}()
	switch a.Kind {
	case api.AskOpen:
		return p.open(a)
	case api.AskClose:
		return p.end(a, z)
	case api.AskSync:
		return api.Deed{Kind: api.DeedSync}
	case api.AskMulti:
		return p.multi(a, z)
	case api.AskConfig:
		return p.follow(a, z)
	}
	return change(p.tree, a, a.Session)
}

// must gives the call up with why, unless ok.
func must(ok bool, why api.Errno) {
	if !ok {
		panic(why)
	}
}

func (p *Plan) open(a api.Ask) api.Deed {
	must(len(p.tree.Sittings()) < api.MaxSittings, api.ErrBusy)
	return api.Deed{Kind: api.DeedOpen, Timeout: a.Timeout}
}

// end takes the session's own nodes with it.
func (p *Plan) end(a api.Ask, z api.Zxid) api.Deed {
	s := sketch{tree: p.tree.Copy(), zxid: z}
	for _, own := range p.tree.Owned(a.Session) {
		s.add(removal(s.tree, own))
	}
	return api.Deed{Kind: api.DeedClose, Owner: a.Session, Parts: s.parts}
}

func (p *Plan) multi(a api.Ask, z api.Zxid) api.Deed {
	s := sketch{tree: p.tree.Copy(), zxid: z}
	for _, part := range a.Parts {
		if part.Kind == api.AskCheck {
			find(s.tree, part)
		} else {
			s.add(change(s.tree, part, a.Session))
		}
	}
	if len(s.parts) == 0 {
		return api.Deed{Kind: api.DeedSync}
	}
	return api.Deed{Kind: api.DeedMulti, Parts: s.parts}
}

// follow is the config that a asks for behind the last one.
func (p *Plan) follow(a api.Ask, z api.Zxid) api.Deed {
	must(!p.pending, api.ErrPending)
	e, errno := reform.Make(p.config, a, z)
	must(errno == api.OK, errno)
	return api.Deed{Kind: api.DeedConfig, Config: e}
}

// sketch is the parts of a deed, and a tree that they are done to one by one: each of them looks at what those ahead of it leave.
type sketch struct {
	tree  *tree.Tree
	zxid  api.Zxid
	parts []api.Deed
}

func (s *sketch) add(part api.Deed) {
	s.parts = append(s.parts, part)
	part.Zxid = s.zxid // a tree does no deed without one
	s.tree.Apply(part)
}

// change is what a call or a part of one does to nodes of t.
func change(t *tree.Tree, a api.Ask, session int64) api.Deed {
	switch a.Kind {
	case api.AskCreate:
		return create(t, a, session)
	case api.AskDelete:
		return remove(t, a)
	}
	return set(t, a)
}

func create(t *tree.Tree, a api.Ask, session int64) api.Deed {
	p, above := place(t, a)
	parent, there := t.Get(above)
	must(there, api.ErrNode)
	must(parent.Stat.Owner == 0, api.ErrEphemeral)
	_, taken := t.Get(p)
	must(!taken, api.ErrThere)
	must(len(t.All()) < api.MaxNodes, api.ErrBusy)
	d := api.Deed{Kind: api.DeedCreate, Path: p, Data: bytes.Clone(a.Data), Cversion: parent.Stat.Cversion + 1}
	if a.Flags&api.Ephemeral != 0 {
		d.Owner = session
	}
	return d
}

// place is the path of the node that a creates, and that of its parent.
func place(t *tree.Tree, a api.Ask) (p, above string) {
	if a.Flags&api.Sequence == 0 {
		p, above = strings.Clone(a.Path), path.Parent(a.Path)
	} else {
		// What is to be numbered may end in a slash: with a letter behind it it has the parent that it will have.
		above = path.Parent(a.Path + "x")
		parent, _ := t.Get(above)
		p, _ = path.Number(a.Path, parent.Stat.Cversion)
	}
	// The root, and what is no right path, have no parent; what can't be numbered is empty.
	must(p != "" && above != "", api.ErrPath)
	return p, above
}

func remove(t *tree.Tree, a api.Ask) api.Deed {
	must(a.Path != root, api.ErrPath)
	n := find(t, a)
	must(n.Stat.Children == 0, api.ErrChildren)
	return removal(t, n.Path)
}

// removal is the part that deletes the node p.
func removal(t *tree.Tree, p string) api.Deed {
	parent, _ := t.Get(path.Parent(p))
	return api.Deed{Kind: api.DeedDelete, Path: p, Cversion: parent.Stat.Cversion + 1}
}

func set(t *tree.Tree, a api.Ask) api.Deed {
	n := find(t, a)
	return api.Deed{Kind: api.DeedSet, Path: n.Path, Data: bytes.Clone(a.Data), Version: n.Stat.Version + 1}
}

// find is the node that a names, of the version that it asks for.
func find(t *tree.Tree, a api.Ask) api.Node {
	must(path.Check(a.Path), api.ErrPath)
	n, there := t.Get(a.Path)
	must(there, api.ErrNode)
	must(a.Version == anyVersion || a.Version == n.Stat.Version, api.ErrVersion)
	return n
}
