package kern

import (
	"vault/api"
)

// irq is a line of interrupts: without a bell it has no badge, is not masked, and has not come meanwhile.
type irq struct {
	bell            int
	badge           uint32
	masked, pending bool
}

// port has bytes that wait: to be taken by threads, to be drained by who runs the kernel.
type port struct {
	in, out string
}

// unbound is an interrupt as it is at first.
func unbound() irq {
	return irq{bell: api.None}
}

func isIrq(n int) bool {
	return n >= 0 && n < api.MaxIrq
}

func isPort(n int) bool {
	return n >= 0 && n < api.MaxPort
}

// ring rings a bell: who waited longest hears it.
func (k *Kernel) ring(bell int, badge uint32) {
	o := k.bus.Ring(bell, badge)
	if o.Peer != api.None {
		k.answer(k.threads[o.Peer], o.Msg)
	}
}
