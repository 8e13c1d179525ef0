package ask

import (
	"beadle/api"
	"beadle/wire"
)

func rightEvent(e api.Event) bool {
	return 0 < e.Kind && e.Kind <= api.Children &&
		0 < e.Sort && e.Sort <= api.WatchList &&
		len(e.Path) <= maxText &&
		e.Zxid >= 0
}

// PutEvent is e as bytes.
func PutEvent(e api.Event) ([]byte, api.Errno) {
	if !rightEvent(e) {
		return nil, api.ErrShape
	}
	w := wire.NewWriter()
	w.Byte(byte(e.Kind))
	w.Byte(byte(e.Sort))
	w.Text(e.Path)
	putInts(w, int64(e.Zxid))
	return w.Done(), api.OK
}

// GetEvent is the event whose bytes b is.
func GetEvent(b []byte) (api.Event, api.Errno) {
	r := wire.NewReader(b)
	kind, sort := api.EventKind(r.Byte()), api.WatchSort(r.Byte())
	e := api.Event{Kind: kind, Sort: sort, Path: r.Text(maxText)}
	e.Zxid = api.Zxid(r.Int())
	if !isPut(PutEvent, e, b) {
		return api.Event{}, api.ErrShape
	}
	return e, api.OK
}
