package client

import (
	"slices"

	"backwater/api"
	"backwater/cache"
	"backwater/cml"
)

const mostAtHand = 12

// hand is what a client has at hand: a cache, which is filled only while the client is linked. Like the journal it stands
// inside under a name of its own, so that its calls are not handed on to whoever has a client.
type hand struct {
	cache  *cache.Cache
	linked bool
}

// emptyHand is the hand of a client that was just opened.
func emptyHand() hand {
	return hand{cache: cache.New(mostAtHand)}
}

// fetch sees to it that an object that the server has is in the cache, and used.
func (h *hand) fetch(f api.Fid) api.Errno {
	switch {
	case h.cache.Touch(f):
		return api.OK
	case !h.linked:
		return api.ErrTimeout
	}
	if _, err := h.cache.Put(f); err != api.OK {
		return api.ErrSpace
	}
	return api.OK
}

// fetchDear puts what is dear into the cache, as far as there is room, if there is a link.
func (h *hand) fetchDear() {
	if !h.linked {
		return
	}
	for _, f := range h.cache.Walk() {
		if _, err := h.cache.Put(f); err != api.OK {
			return
		}
	}
}

// markDirty makes those objects dirty that are in the cache.
func (h *hand) markDirty(objects []api.Fid) {
	for _, f := range objects {
		h.cache.Mark(f, true)
	}
}

// markClean makes all objects clean that no record of a log touches.
func (h *hand) markClean(log []api.Record) {
	for _, f := range h.cache.List() {
		if !slices.ContainsFunc(log, func(r api.Record) bool { return cml.Touches(r, f) }) {
			h.cache.Mark(f, false)
		}
	}
}
