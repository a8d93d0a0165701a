// Package blocks makes the instructions of the middle language of blocks (layer 10).
package blocks

import "hauberk/api"

// The parts are in the order of api's remarks: Dst first, what is asked for behind it.

func Const(dst int, n uint64) api.Ins { return api.Ins{Op: api.MConst, Dst: dst, N: n} }

func Move(dst, a int) api.Ins { return api.Ins{Op: api.MMove, Dst: dst, A: a} }

func Op(dst, a, b, operation int) api.Ins {
	return api.Ins{Op: api.MOp, Dst: dst, A: a, B: b, N: uint64(operation)}
}

func Narrow(dst, a, size int) api.Ins { return api.Ins{Op: api.MNarrow, Dst: dst, A: a, Size: size} }

func Null(dst int) api.Ins { return api.Ins{Op: api.MNull, Dst: dst} }

func Top(dst int, name string) api.Ins { return api.Ins{Op: api.MTop, Dst: dst, Name: name} }

func Local(dst, slot int) api.Ins { return api.Ins{Op: api.MLocal, Dst: dst, N: uint64(slot)} }

func Add(dst, a, b int) api.Ins { return api.Ins{Op: api.MAdd, Dst: dst, A: a, B: b} }

func Part(dst, a, off, size int) api.Ins {
	return api.Ins{Op: api.MPart, Dst: dst, A: a, N: uint64(off), Size: size}
}

func Is(dst, a int) api.Ins { return api.Ins{Op: api.MIs, Dst: dst, A: a} }

func Load(dst, a, size int) api.Ins { return api.Ins{Op: api.MLoad, Dst: dst, A: a, Size: size} }

func Store(a, b, size int) api.Ins { return api.Ins{Op: api.MStore, A: a, B: b, Size: size} }

func Clear(slot int) api.Ins { return api.Ins{Op: api.MClear, N: uint64(slot)} }

func Malloc(dst, a int) api.Ins { return api.Ins{Op: api.MMalloc, Dst: dst, A: a} }

func Free(a int) api.Ins { return api.Ins{Op: api.MFree, A: a} }

// Call is one whose answer nobody wants, if dst is -1.
func Call(dst int, name string, args ...int) api.Ins {
	return api.Ins{Op: api.MCall, Dst: dst, Name: name, Args: args}
}

// Ret answers nothing, if a is -1.
func Ret(a int) api.Ins { return api.Ins{Op: api.MRet, A: a} }

func Jump(to int) api.Ins { return api.Ins{Op: api.MJump, To: to} }

func If(a, to int) api.Ins { return api.Ins{Op: api.MIf, A: a, To: to} }

func Put(a int) api.Ins { return api.Ins{Op: api.MPut, A: a} }

func Get(dst int) api.Ins { return api.Ins{Op: api.MGet, Dst: dst} }

func Exit(a int) api.Ins { return api.Ins{Op: api.MExit, A: a} }
