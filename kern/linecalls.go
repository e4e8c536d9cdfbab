package kern

import (
	"vault/api"
)

// irqOf is the interrupt that a call's first word names.
func (k *Kernel) irqOf(t *thread) (*irq, api.Errno) {
	_, c, e := k.wanted(t, t.arg(0), api.Irq, api.Write)
	if e != api.OK {
		return nil, e
	}
	return &k.irqs[c.Num], api.OK
}

// portOf is the port that a call's first word names, with a right that is wanted.
func (k *Kernel) portOf(t *thread, right int) (*port, api.Errno) {
	_, c, e := k.wanted(t, t.arg(0), api.Port, right)
	if e != api.OK {
		return nil, e
	}
	return &k.ports[c.Num], api.OK
}

func (k *Kernel) bind(t *thread) api.Errno {
	i, e := k.irqOf(t)
	if e != api.OK {
		return e
	}
	_, bell, e := k.wanted(t, t.arg(1), api.Bell, api.Write)
	if e != api.OK {
		return e
	}
	if i.bell != api.None {
		return api.ErrState
	}
	*i = irq{bell: bell.Num, badge: bell.Badge}
	return api.OK
}

// ack: what came meanwhile is heard now, and must be acknowledged in its turn.
func (k *Kernel) ack(t *thread) api.Errno {
	i, e := k.irqOf(t)
	if e != api.OK {
		return e
	}
	if i.bell == api.None {
		return api.ErrState
	}
	if i.pending {
		i.pending = false
		k.ring(i.bell, i.badge)
	} else {
		i.masked = false
	}
	return api.OK
}

func (k *Kernel) put(t *thread) api.Errno {
	p, e := k.portOf(t, api.Write)
	if e != api.OK {
		return e
	}
	if len(p.out) == api.MaxQueue {
		return api.ErrRoom
	}
	p.out += string([]byte{byte(t.arg(1))})
	return api.OK
}

func (k *Kernel) take(t *thread) api.Errno {
	p, e := k.portOf(t, api.Read)
	if e != api.OK {
		return e
	}
	if p.in == "" {
		return api.ErrEmpty
	}
	t.context.Regs[firstReg+1] = uint32(p.in[0])
	p.in = p.in[1:]
	return api.OK
}
