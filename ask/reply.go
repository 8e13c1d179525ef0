package ask

import (
	"beadle/api"
	"beadle/ensemble"
	"beadle/wire"
)

// statNumbers are a stat's, in the order in which they are put.
type statNumbers [10]int64

func numbersOf(s api.Stat) statNumbers {
	return statNumbers{
		int64(s.Czxid), int64(s.Mzxid), int64(s.Pzxid), s.Ctime, s.Mtime,
		int64(s.Version), int64(s.Cversion), s.Owner, int64(s.Length), int64(s.Children),
	}
}

func (l statNumbers) stat() api.Stat {
	return api.Stat{
		Czxid: api.Zxid(l[0]), Mzxid: api.Zxid(l[1]), Pzxid: api.Zxid(l[2]), Ctime: l[3], Mtime: l[4],
		Version: int(l[5]), Cversion: int(l[6]), Owner: l[7], Length: int(l[8]), Children: int(l[9]),
	}
}

func rightReply(r api.Reply) bool {
	if !fitsReply(r) || len(r.Parts) > api.MaxParts {
		return false
	}
	for _, part := range r.Parts {
		if len(part.Parts) > 0 || len(part.List) > 0 || !fitsReply(part) {
			return false
		}
	}
	return true
}

// fitsReply tells whether all of r but its parts is as it is in a right reply.
func fitsReply(r api.Reply) bool {
	stat := numbersOf(r.Stat)
	return 0 < r.Kind && r.Kind <= api.AskWatch &&
		fromZero(int64(r.Xid), int64(r.Zxid), int64(r.Err), r.Session, int64(r.Timeout)) &&
		fromZero(stat[:]...) &&
		r.Timeout <= api.MaxTimeout &&
		len(r.Path) <= maxText &&
		len(r.Data) <= api.MaxData &&
		fitsList(r.List) &&
		(isNone(r.Config) || ensemble.Check(r.Config) == api.OK)
}

func fitsList(list []string) bool {
	if len(list) > api.MaxNodes {
		return false
	}
	for _, text := range list {
		if len(text) > maxText {
			return false
		}
	}
	return true
}

func isNone(e api.Ensemble) bool {
	return e.Version == 0 && len(e.Members) == 0
}

// PutReply is r as bytes.
func PutReply(r api.Reply) ([]byte, api.Errno) {
	if !rightReply(r) {
		return nil, api.ErrShape
	}
	w := wire.NewWriter()
	putReply(w, r)
	return w.Done(), api.OK
}

// putReply goes no deeper than one turn: parts of a right reply have none.
func putReply(w *wire.Writer, r api.Reply) {
	w.Byte(byte(r.Kind))
	putInts(w, int64(r.Xid), int64(r.Zxid), int64(r.Err), r.Session, int64(r.Timeout))
	w.Text(r.Path)
	w.Bytes(r.Data)
	stat := numbersOf(r.Stat)
	putInts(w, stat[:]...)
	putInts(w, int64(len(r.List)))
	for _, text := range r.List {
		w.Text(text)
	}
	// No config is none that may be: beside that error stand no bytes, which is what it is put as.
	config, _ := ensemble.Put(r.Config)
	w.Bytes(config)
	putInts(w, int64(len(r.Parts)))
	for _, part := range r.Parts {
		putReply(w, part)
	}
}

// GetReply is the reply whose bytes b is.
func GetReply(b []byte) (api.Reply, api.Errno) {
	from := wire.NewReader(b)
	r := getReply(from)
	for range from.Count(api.MaxParts) {
		r.Parts = append(r.Parts, getReply(from))
		from.Count(0)
	}
	if !isPut(PutReply, r, b) {
		return api.Reply{}, api.ErrShape
	}
	return r, api.OK
}

// getReply is all of a reply but its parts.
func getReply(from *wire.Reader) api.Reply {
	r := api.Reply{Kind: api.AskKind(from.Byte())}
	r.Xid = int(from.Int())
	r.Zxid = api.Zxid(from.Int())
	r.Err = api.Errno(from.Int())
	r.Session = from.Int()
	r.Timeout = int(from.Int())
	r.Path = from.Text(maxText)
	r.Data = from.Bytes(api.MaxData)
	var stat statNumbers
	for i := range stat {
		stat[i] = from.Int()
	}
	r.Stat = stat.stat()
	for range from.Count(api.MaxNodes) {
		r.List = append(r.List, from.Text(maxText))
	}
	// Bytes that are no config's leave none, which is put as no bytes, and not as these.
	r.Config, _ = ensemble.Get(from.Bytes(api.MaxBytes))
	return r
}
