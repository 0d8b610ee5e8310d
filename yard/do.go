package yard

import (
	"quadrille/api"
	"quadrille/desk"
	"quadrille/note"
)

const (
	controller = -1  // to whom the nodes send
	longest    = 400 // a Calm has no more ticks
)

// Do has a step happen.
func (y *Yard) Do(s Step) api.Errno {
	if y == nil {
		return api.ErrNone
	}
	switch s.Kind {
	case Ask:
		return y.ask(s.Data)
	case Tick:
		return y.tick()
	case Land:
		return y.with(s.N, y.land)
	case Echo:
		return y.with(s.N, y.echo)
	case Lose:
		return y.with(s.N, y.air.Lose)
	case Restart:
		return y.restart(s.N)
	case Arm:
		return y.slab.Arm(s.N)
	case Crash:
		return y.crash(s.Data, s.Cut)
	case Calm:
		return y.calm(s.N)
	case Deaf:
		return y.deafen(s.N, s.On)
	}
	return api.ErrArg
}

// ask has the controller be asked for p.
func (y *Yard) ask(p []byte) api.Errno {
	r, e := y.desk.Ask(p)
	if e == api.OK {
		y.replies = append(y.replies, r)
	}
	y.send()
	return e
}

// tick has a tick pass, at the nodes ahead of the controller.
func (y *Yard) tick() api.Errno {
	if y.now == api.MaxTick {
		return api.ErrStale
	}
	y.now++
	for i, n := range y.nodes {
		y.say(i, n.hand.Tick(y.now))
	}
	y.desk.Tick(y.now) // that it isn't up, or there is none, the tick doesn't mind
	y.send()
	return api.OK
}

// with has something done with the n-th datagram that flies, by its number.
func (y *Yard) with(n int, do func(id uint64) api.Errno) api.Errno {
	id, ok := y.air.At(n)
	if !ok {
		return api.ErrNone
	}
	return do(id)
}

// land has a datagram come. Whatever becomes of it there it flies no more.
func (y *Yard) land(id uint64) api.Errno {
	o, e := y.air.Land(id)
	if e != api.OK {
		return e
	}
	if o.To != controller {
		y.reach(o.To, o.Data)
		return api.OK
	}
	e = y.desk.Land(o.Data)
	y.send()
	return e
}

// echo has a datagram fly once more.
func (y *Yard) echo(id uint64) api.Errno {
	_, e := y.air.Echo(id)
	return e
}

// restart has a node begin anew.
func (y *Yard) restart(node int) api.Errno {
	if !y.hasNode(node) {
		return api.ErrArg
	}
	y.nodes[node].hand.Restart()
	return api.OK
}

// crash has the power go and come back, and a controller begin.
func (y *Yard) crash(fates []byte, cut int) api.Errno {
	if e := y.slab.Crash(fates, cut); e != api.OK {
		return e
	}
	d, e := desk.Open(y.slab, y.c, y.now)
	y.desk = d
	y.send()
	return e
}

// calm has n ticks pass, behind each of which all comes.
func (y *Yard) calm(n int) api.Errno {
	if n < 0 || n > longest {
		return api.ErrArg
	}
	if uint64(y.now)+uint64(n) > api.MaxTick {
		return api.ErrStale
	}
	for range n {
		y.tick()
		for y.air.Len() > 0 {
			y.with(0, y.land)
		}
	}
	return api.OK
}

// deafen has a node be deaf, or not.
func (y *Yard) deafen(node int, on bool) api.Errno {
	if !y.hasNode(node) {
		return api.ErrArg
	}
	y.nodes[node].deaf = on
	return api.OK
}

// reach has bytes come at a node.
func (y *Yard) reach(node int, p []byte) {
	k, e := note.ReadPacket(p)
	if e != api.OK || !y.hasNode(node) || y.nodes[node].deaf {
		return
	}
	y.say(node, y.nodes[node].hand.Hear(k))
}

// say has all fly that a node sends, unless it is deaf.
func (y *Yard) say(node int, l []api.Packet) {
	if y.nodes[node].deaf {
		return
	}
	for _, k := range l {
		p, _ := note.Packet(k)
		y.fly(api.Out{To: controller, Data: p})
	}
}

// send has all fly that the controller sends.
func (y *Yard) send() {
	for _, o := range y.desk.Out() {
		y.fly(o)
	}
}

// fly has a datagram fly; where there is no room it is lost.
func (y *Yard) fly(o api.Out) { y.air.Fly(o) }
