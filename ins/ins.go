// Package ins makes the instructions of the middle language of addresses (layer 12).
package ins

import "hauberk/api"

// The parts are in the order of api's remarks: Dst first, what is asked for behind it.

func Const(dst int, n uint64) api.Ins { return api.Ins{Op: api.MConst, Dst: dst, N: n} }

func Move(dst, a int) api.Ins { return api.Ins{Op: api.MMove, Dst: dst, A: a} }

func Op(dst, a, b, operation int) api.Ins {
	return api.Ins{Op: api.MOp, Dst: dst, A: a, B: b, N: uint64(operation)}
}

func Narrow(dst, a, size int) api.Ins { return api.Ins{Op: api.MNarrow, Dst: dst, A: a, Size: size} }

func Jump(to int) api.Ins { return api.Ins{Op: api.MJump, To: to} }

func If(a, to int) api.Ins { return api.Ins{Op: api.MIf, A: a, To: to} }

func Put(a int) api.Ins { return api.Ins{Op: api.MPut, A: a} }

func Get(dst int) api.Ins { return api.Ins{Op: api.MGet, Dst: dst} }

func Exit(a int) api.Ins { return api.Ins{Op: api.MExit, A: a} }

func Top(dst int, name string) api.Ins { return api.Ins{Op: api.FTop, Dst: dst, Name: name} }

func Slot(dst, slot int) api.Ins { return api.Ins{Op: api.FSlot, Dst: dst, N: uint64(slot)} }

func Lock(dst int) api.Ins { return api.Ins{Op: api.FLock, Dst: dst} }

func Key(dst int) api.Ins { return api.Ins{Op: api.FKey, Dst: dst} }

// Check is of a pointer's five registers.
func Check(size int, args ...int) api.Ins { return api.Ins{Op: api.FCheck, Args: args, Size: size} }

func Load(dst, a, size int) api.Ins { return api.Ins{Op: api.FLoad, Dst: dst, A: a, Size: size} }

func Store(a, b, size int) api.Ins { return api.Ins{Op: api.FStore, A: a, B: b, Size: size} }

// Read is into the registers of a pointer but its value.
func Read(a int, outs ...int) api.Ins { return api.Ins{Op: api.FRead, A: a, Outs: outs} }

// Write is of those.
func Write(a int, args ...int) api.Ins { return api.Ins{Op: api.FWrite, A: a, Args: args} }

func Clear(slot int) api.Ins { return api.Ins{Op: api.FClear, N: uint64(slot)} }

// Malloc is into a pointer's five registers.
func Malloc(a int, outs ...int) api.Ins { return api.Ins{Op: api.FMalloc, A: a, Outs: outs} }

// Free is of those.
func Free(args ...int) api.Ins { return api.Ins{Op: api.FFree, Args: args} }

func Call(name string, args, outs []int) api.Ins {
	return api.Ins{Op: api.FCall, Name: name, Args: args, Outs: outs}
}

func Ret(args ...int) api.Ins { return api.Ins{Op: api.FRet, Args: args} }
