package kern

import (
	"vault/api"
)

// call does the call that a thread's registers tell of, and tells its number and its error.
func (k *Kernel) call(t *thread) (int, api.Errno) {
	number := t.context.Regs[callReg]
	work := k.workOf(number)
	if work == nil {
		t.context.Regs[errReg] = uint32(api.ErrCall)
		return 0, api.ErrCall
	}
	e := work(k, t)
	if !t.isHeld() { // an answer says OK there too, as this does then; of a thread that has gone nobody sees it
		t.context.Regs[errReg] = uint32(e)
	}
	return int(number), e
}

// workOf is what is done for a call; nil, if there is no such call, or it may not be made.
func (k *Kernel) workOf(number uint32) func(*Kernel, *thread) api.Errno {
	if number > api.LastCall || k.calls>>number&1 == 0 {
		return nil
	}
	return works()[number]
}

// works has what is done for each call, by its number.
func works() [api.LastCall + 1]func(*Kernel, *thread) api.Errno {
	return [api.LastCall + 1]func(*Kernel, *thread) api.Errno{
		api.CallSend:    (*Kernel).send,
		api.CallTry:     (*Kernel).try,
		api.CallCall:    (*Kernel).callEnd,
		api.CallGet:     (*Kernel).get,
		api.CallPoll:    (*Kernel).poll,
		api.CallReply:   (*Kernel).reply,
		api.CallServe:   (*Kernel).serve,
		api.CallYield:   (*Kernel).yield,
		api.CallRing:    (*Kernel).ringBell,
		api.CallHear:    (*Kernel).hear,
		api.CallListen:  (*Kernel).listen,
		api.CallRetype:  (*Kernel).retype,
		api.CallCopy:    (*Kernel).copyCap,
		api.CallMint:    (*Kernel).mintCap,
		api.CallMove:    (*Kernel).moveCap,
		api.CallDelete:  (*Kernel).deleteNamed,
		api.CallRevoke:  (*Kernel).revokeNamed,
		api.CallTable:   (*Kernel).mapNamedTable,
		api.CallMap:     (*Kernel).mapNamedFrame,
		api.CallUnmap:   (*Kernel).unmapNamed,
		api.CallSetup:   (*Kernel).setup,
		api.CallRegs:    (*Kernel).setRegs,
		api.CallResume:  (*Kernel).resume,
		api.CallSuspend: (*Kernel).suspendNamed,
		api.CallPrio:    (*Kernel).setPrio,
		api.CallBind:    (*Kernel).bind,
		api.CallAck:     (*Kernel).ack,
		api.CallPut:     (*Kernel).put,
		api.CallTake:    (*Kernel).take,
	}
}

func (k *Kernel) send(t *thread) api.Errno {
	return k.sendFrom(t, api.Sending)
}

func (k *Kernel) try(t *thread) api.Errno {
	return k.sendFrom(t, api.Ready)
}

func (k *Kernel) callEnd(t *thread) api.Errno {
	return k.sendFrom(t, api.Calling)
}

func (k *Kernel) get(t *thread) api.Errno {
	return k.getBy(t, true)
}

func (k *Kernel) poll(t *thread) api.Errno {
	return k.getBy(t, false)
}

func (k *Kernel) reply(t *thread) api.Errno {
	caller := t.caller
	if caller == nil {
		return api.ErrState
	}
	t.caller, caller.waits = nil, nil
	switch {
	case caller.state == api.Asking:
		k.answer(caller, t.message(0))
	case t.context.Regs[labelReg] == 0: // it told of a fault, and does what it trapped for once more
		k.set(caller, api.Ready)
	default:
		k.set(caller, api.Idle)
	}
	return api.OK
}

func (k *Kernel) serve(t *thread) api.Errno {
	k.reply(t) // nobody may wait for it
	return k.get(t)
}

func (k *Kernel) yield(t *thread) api.Errno {
	return k.sched.Yield(t.num)
}

func (k *Kernel) ringBell(t *thread) api.Errno {
	_, bell, e := k.wanted(t, t.context.Regs[firstReg], api.Bell, api.Write)
	if e != api.OK {
		return e
	}
	k.ring(bell.Num, bell.Badge)
	return api.OK
}

func (k *Kernel) hear(t *thread) api.Errno {
	return k.hearBy(t, true)
}

func (k *Kernel) listen(t *thread) api.Errno {
	return k.hearBy(t, false)
}

// sendFrom sends what a thread's registers say to the end that they name.
func (k *Kernel) sendFrom(t *thread, how int) api.Errno {
	_, end, e := k.wanted(t, t.context.Regs[firstReg], api.End, api.Write)
	if e != api.OK {
		return e
	}
	t.granted = hasRights(end, api.Grant)
	return k.sendAs(t, end.Num, how, t.message(end.Badge))
}

func (k *Kernel) getBy(t *thread, waits bool) api.Errno {
	_, end, e := k.wanted(t, t.context.Regs[firstReg], api.End, api.Read)
	if e != api.OK {
		return e
	}
	o := k.bus.Get(end.Num, t.num, waits)
	if o.Waits {
		k.set(t, api.Getting)
	} else if o.Err == api.OK {
		k.meet(k.threads[o.Peer], t, o)
	}
	return o.Err
}

func (k *Kernel) hearBy(t *thread, waits bool) api.Errno {
	_, bell, e := k.wanted(t, t.context.Regs[firstReg], api.Bell, api.Read)
	if e != api.OK {
		return e
	}
	o := k.bus.Hear(bell.Num, t.num, waits)
	if o.Waits {
		k.set(t, api.Hearing)
	} else if o.Err == api.OK {
		k.answer(t, o.Msg)
	}
	return o.Err
}
