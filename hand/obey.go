package hand

import (
	"quadrille/api"
	"quadrille/note"
)

// deeds answers what the notes do, by their kinds; nil: nothing.
func deeds() []func(*Hand, api.Note) []api.Packet {
	return []func(*Hand, api.Note) []api.Packet{
		api.Load: (*Hand).load,
		api.Go:   (*Hand).start,
		api.Stop: (*Hand).stop,
		api.Save: (*Hand).save,
		api.Drop: (*Hand).drop,
		api.Warn: (*Hand).warn,
	}
}

// obey does as p says, if it is a note, and answers what is said to that.
func (h *Hand) obey(p []byte) []api.Packet {
	n, e := note.ReadNote(p)
	if e != api.OK {
		return nil
	}
	l := deeds()
	if int(n.Kind) >= len(l) || l[n.Kind] == nil {
		return nil
	}
	return l[n.Kind](h, n)
}

// say answers the packet in which n is said; none, if it can't be.
func (h *Hand) say(n api.Note) []api.Packet {
	p, _ := note.Note(n)
	k, e := h.talk.Say(p)
	if e != api.OK {
		return nil
	}
	return []api.Packet{k}
}

func (h *Hand) load(n api.Note) []api.Packet {
	if _, ok := h.ranks[n.Job]; !ok && n.Job != 0 {
		h.ranks[n.Job] = api.Rank{Job: n.Job, Ver: n.Ver, Rank: n.Rank, Credit: n.Credit}
	}
	return h.say(api.Note{Kind: api.Loaded, Job: n.Job})
}

func (h *Hand) start(n api.Note) []api.Packet {
	// Be it done or not: who was told of a generation does nothing of an older one any more.
	late := n.Gen < h.gen
	h.gen = max(h.gen, n.Gen)
	r, ok := h.ranks[n.Job]
	_, busy := h.running()
	if !ok || busy || late || n.Gen == 0 || !h.leased || h.Bound() < h.now {
		return nil
	}
	r.Run, r.Gen, r.From, r.To = true, n.Gen, 0, 0
	h.ranks[n.Job] = r
	return nil
}

func (h *Hand) stop(n api.Note) []api.Packet {
	h.gen = max(h.gen, n.Gen)
	said := api.Note{Kind: api.Stopped, Gen: n.Gen}
	if r, ok := h.running(); ok && r.Gen <= n.Gen {
		said.Job, said.From, said.To = r.Job, r.From, r.To
		r.Run = false
		h.ranks[r.Job] = r
	}
	return h.say(said)
}

func (h *Hand) save(n api.Note) []api.Packet {
	r, ok := h.ranks[n.Job]
	if !ok || r.Run {
		return nil
	}
	r.Ver, r.Credit = n.Ver, n.Credit
	h.ranks[n.Job] = r
	return h.say(api.Note{Kind: api.Saved, Job: n.Job, Ver: n.Ver, Rank: r.Rank, Blob: Blob(n.Job, r.Rank, n.Credit)})
}

func (h *Hand) drop(n api.Note) []api.Packet {
	delete(h.ranks, n.Job)
	return h.say(api.Note{Kind: api.Dropped, Job: n.Job})
}

func (h *Hand) warn(n api.Note) []api.Packet {
	if r, ok := h.ranks[n.Job]; ok {
		r.Warned = true
		h.ranks[n.Job] = r
	}
	return nil
}
