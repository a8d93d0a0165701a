package sem_test

import (
	"math/bits"

	"hauberk/api"
)

// The chapter once more, written apart from the program: calls are Go's own, an expression is gone through as it stands, a block is a list of cells, and a pointer holds the block itself.

type modelBlock struct {
	size           int64
	mayFree, ended bool
	cells          map[int64]any
}

type modelPtr struct {
	b            *modelBlock
	at, low, top int64
}

// modelEnd is thrown where a run ends.
type modelEnd struct{ r api.Result }

// modelLeave is how a statement was left.
type modelLeave int

const (
	atEnd modelLeave = iota
	byBreak
	byContinue
	byReturn
)

type model struct {
	p     api.Program
	in    []byte
	fuel  int
	steps int
	out   []byte
	tops  map[string]*modelBlock
	// wanted tells what was done, for a tally.
	done map[string]int
}

type modelCall struct {
	*model
	mine   map[string]*modelBlock
	answer any
}

func modelRun(p api.Program, in []byte, fuel int, done map[string]int) (r api.Result) {
	m := &model{p: p, in: in, fuel: fuel, tops: map[string]*modelBlock{}, done: done}
	defer func() {
		x := recover()
		end, ok := x.(modelEnd)
		if !ok {
			panic(x)
		}
		r = end.r
		r.Steps, r.Out = m.steps, m.out
	}()
	for _, v := range p.Vars {
		m.tops[v.Name] = m.newBlock(v)
	}
	code, _ := m.call("main", nil).(int64)
	panic(modelEnd{api.Result{State: api.Exit, Code: byte(code)}})
}

func (m *model) begin() {
	if m.steps == m.fuel || m.fuel < 0 {
		panic(modelEnd{})
	}
	m.steps++
}

func wrong(e api.Errno) { panic(modelEnd{api.Result{State: api.Stuck, Why: e}}) }

// sizeOf and fieldOf lay structs out once more.
func (m *model) sizeOf(t api.Type) int64 {
	switch {
	case t.Stars > 0 || t.Base == api.Long:
		return 8
	case t.Base == api.Int:
		return 4
	case t.Base == api.Char:
		return 1
	}
	_, size := m.fieldOf(t.Struct, "")
	return size
}

// fieldOf is where a field stands, and the struct's size.
func (m *model) fieldOf(record, field string) (int64, int64) {
	var end, off, line int64 = 0, 0, 1
	for _, s := range m.p.Structs {
		for _, f := range s.Fields {
			if s.Name != record {
				continue
			}
			n := m.sizeOf(f.Type)
			for end%n != 0 {
				end++
			}
			if f.Name == field {
				off = end
			}
			end, line = end+n, max(line, n)
		}
	}
	for end%line != 0 {
		end++
	}
	return off, end
}

func (m *model) newBlock(v api.Var) *modelBlock {
	size := m.sizeOf(v.Type)
	if v.Len > 0 {
		size *= int64(v.Len)
	}
	return &modelBlock{size: size, cells: map[int64]any{}}
}

func whole(b *modelBlock) modelPtr { return modelPtr{b, 0, 0, b.size} }

// locals are all that are told in statements, as they stand in the text.
func locals(l []api.Stmt) []api.Var {
	var vars []api.Var
	for _, s := range l {
		if s.Kind == api.SLocal {
			vars = append(vars, s.Var)
		}
		vars = append(vars, locals(s.Kids)...)
	}
	return vars
}

func (m *model) call(name string, args []any) any {
	for _, f := range m.p.Funcs {
		if f.Name != name {
			continue
		}
		c := &modelCall{model: m, mine: map[string]*modelBlock{}, answer: m.zero(f.Type)}
		for _, v := range append(append([]api.Var{}, f.Params...), locals(f.Body.Kids)...) {
			c.mine[v.Name] = m.newBlock(v)
		}
		for k, v := range f.Params {
			c.mine[v.Name].cells[0] = args[k]
		}
		for _, s := range f.Body.Kids {
			if c.stmt(s) == byReturn {
				break
			}
		}
		for _, b := range c.mine {
			b.ended = true
		}
		return c.answer
	}
	switch name {
	case "putchar":
		m.out = append(m.out, byte(args[0].(int64)))
	case "getchar":
		m.done["getchar"]++
		if len(m.in) == 0 {
			return int64(-1)
		}
		x := m.in[0]
		m.in = m.in[1:]
		return int64(x)
	case "exit":
		panic(modelEnd{api.Result{State: api.Exit, Code: byte(args[0].(int64))}})
	case "free":
		m.free(args[0].(modelPtr))
	}
	return nil
}

func (m *model) free(p modelPtr) {
	switch {
	case p.b == nil:
		wrong(api.ErrNull)
	case p.b.ended:
		wrong(api.ErrGone)
	case !p.b.mayFree || p != whole(p.b):
		wrong(api.ErrFree)
	}
	m.done["free"]++
	p.b.ended = true
}

// zero is what a type's first value is.
func (m *model) zero(t api.Type) any {
	if t.Stars > 0 {
		return modelPtr{}
	}
	return int64(0)
}

func (c *modelCall) stmt(s api.Stmt) modelLeave {
	c.begin()
	switch s.Kind {
	case api.SBlock:
		for _, k := range s.Kids {
			if l := c.stmt(k); l != atEnd {
				return l
			}
		}
	case api.SIf:
		if yes(c.value(s.Exprs[0])) {
			return c.stmt(s.Kids[0])
		} else if len(s.Kids) == 2 {
			return c.stmt(s.Kids[1])
		}
	case api.SWhile:
		for yes(c.value(s.Exprs[0])) {
			switch c.stmt(s.Kids[0]) {
			case byReturn:
				return byReturn
			case byBreak:
				return atEnd
			}
			c.done["again"]++
			c.begin()
		}
	case api.SReturn:
		for _, x := range s.Exprs {
			c.answer = c.value(x)
		}
		return byReturn
	case api.SBreak:
		return byBreak
	case api.SContinue:
		return byContinue
	case api.SExpr:
		for _, x := range s.Exprs {
			c.value(x)
		}
	case api.SLocal:
		b := c.mine[s.Var.Name]
		var v any
		for _, x := range s.Exprs {
			v = c.value(x)
		}
		b.cells = map[int64]any{}
		if v != nil {
			b.cells[0] = v
		}
	}
	return atEnd
}

func yes(v any) bool {
	p, ok := v.(modelPtr)
	return ok && p.b != nil || !ok && v.(int64) != 0
}

func bit(is bool) int64 {
	if is {
		return 1
	}
	return 0
}

// reach is the cell of a pointer, of so many bytes.
func reach(p modelPtr, size int64) map[int64]any {
	if p.b == nil {
		wrong(api.ErrNull)
	}
	if p.b.ended {
		wrong(api.ErrGone)
	}
	if p.at < p.low || p.at >= p.top || p.top-p.at < size {
		wrong(api.ErrBounds)
	}
	return p.b.cells
}

func isLvalue(x api.Expr) bool {
	return x.Kind == api.EName || x.Kind == api.EUnary && x.Op == "*" || x.Kind == api.EIndex || x.Kind == api.EField
}

// seenAs is what was stored, as it is loaded by a type, which may be another one.
func (c *modelCall) seenAs(v any, t api.Type) any {
	n, isNum := v.(int64)
	if isNum == (t.Stars > 0) {
		c.done["another"]++
		return c.zero(t)
	}
	if isNum {
		return shortened(n, t)
	}
	return v
}

func shortened(n int64, t api.Type) int64 {
	switch t.Base {
	case api.Char:
		return int64(int8(n))
	case api.Int:
		return int64(int32(n))
	}
	return n
}

// where is the pointer to an lvalue.
func (c *modelCall) where(x api.Expr) modelPtr {
	c.begin()
	switch x.Kind {
	case api.EUnary:
		return c.value(x.Kids[0]).(modelPtr)
	case api.EIndex:
		p := c.value(x.Kids[0]).(modelPtr)
		return c.moved(p, c.value(x.Kids[1]).(int64), x.Type)
	case api.EField:
		p := c.where(x.Kids[0])
		off, _ := c.fieldOf(x.Kids[0].Type.Struct, x.Name)
		return alone(p, off, c.sizeOf(x.Type))
	}
	if b := c.mine[x.Name]; b != nil {
		return whole(b)
	}
	return whole(c.tops[x.Name])
}

// alone is a part of what a pointer points to.
func alone(p modelPtr, off, size int64) modelPtr {
	if p.b == nil {
		return p
	}
	p.at += off
	if p.low < p.at {
		p.low = p.at
	}
	if p.top > p.at+size {
		p.top = p.at + size
	}
	return p
}

func (m *model) moved(p modelPtr, n int64, t api.Type) modelPtr {
	if p.b != nil {
		p.at += n * m.sizeOf(t)
	}
	return p
}

func (c *modelCall) value(x api.Expr) any {
	if isLvalue(x) {
		p := c.where(x)
		if x.Kind == api.EName && x.Num == 1 {
			return p
		}
		cells := reach(p, c.sizeOf(x.Type))
		c.done["load"]++
		v, ok := cells[p.at]
		if !ok {
			return c.zero(x.Type)
		}
		return c.seenAs(v, x.Type)
	}
	c.begin()
	switch x.Kind {
	case api.ENum:
		if x.Type.Stars > 0 {
			return modelPtr{}
		}
		return int64(x.Num)
	case api.ESize:
		return int64(x.Num)
	case api.EUnary:
		return c.unary(x)
	case api.EBinary:
		return c.binary(x)
	case api.EAssign:
		p := c.where(x.Kids[0])
		v := c.value(x.Kids[1])
		reach(p, c.sizeOf(x.Type))[p.at] = v
		c.done["store"]++
		return v
	case api.ECast:
		return shortened(c.value(x.Kids[0]).(int64), x.Type)
	case api.EMalloc:
		n := c.value(x.Kids[0]).(int64)
		if n < 1 || n > 1<<22 {
			panic(modelEnd{api.Result{State: api.NoRoom}})
		}
		c.done["malloc"]++
		return whole(&modelBlock{size: n, mayFree: true, cells: map[int64]any{}})
	}
	var args []any
	for _, k := range x.Kids {
		args = append(args, c.value(k))
	}
	c.done["call"]++
	return c.call(x.Name, args)
}

func (c *modelCall) unary(x api.Expr) any {
	k := x.Kids[0]
	if x.Op == "&" {
		p := c.where(k)
		if k.Kind == api.EName || k.Kind == api.EField {
			p = alone(p, 0, c.sizeOf(k.Type))
		}
		return p
	}
	v := c.value(k)
	switch x.Op {
	case "!":
		return bit(!yes(v))
	case "~":
		return -v.(int64) - 1
	}
	return reckon("-", 0, v.(int64), x.Type.Base == api.Int)
}

func (c *modelCall) binary(x api.Expr) any {
	a := c.value(x.Kids[0])
	switch {
	case x.Op == "&&":
		return bit(yes(a) && yes(c.value(x.Kids[1])))
	case x.Op == "||":
		return bit(yes(a) || yes(c.value(x.Kids[1])))
	}
	b := c.value(x.Kids[1])
	p, isPtr := a.(modelPtr)
	q, isEither := b.(modelPtr)
	switch {
	case isPtr && isEither: // one is a nought
		return bit((p.b == nil && q.b == nil) == (x.Op == "=="))
	case isPtr:
		t := x.Type
		t.Stars--
		n := b.(int64)
		if x.Op == "-" {
			n = -n
		}
		return c.moved(p, n, t)
	}
	return reckon(x.Op, a.(int64), b.(int64), x.Type.Base == api.Int && !compares(x.Op))
}

func compares(op string) bool {
	return op[0] == '=' || op[0] == '!' || (op[0] == '<' || op[0] == '>') && op != "<<" && op != ">>"
}

// reckon does an operator of numbers of 64 bits, or of 32, by Go's own.
func reckon(op string, a, b int64, short bool) int64 {
	switch op {
	case "<":
		return bit(a < b)
	case "<=":
		return bit(a <= b)
	case ">":
		return bit(a > b)
	case ">=":
		return bit(a >= b)
	case "==":
		return bit(a == b)
	case "!=":
		return bit(a != b)
	}
	if short {
		n := uint(b) % 32
		switch op {
		case "<<":
			return int64(int32(a) << n)
		case ">>":
			return int64(int32(a) >> n)
		}
		return int64(int32(reckon(op, a, b, false)))
	}
	n := uint(b) % bits.UintSize
	switch {
	case op == "+":
		return a + b
	case op == "-":
		return a - b
	case op == "*":
		return a * b
	case op == "/" && b == 0:
		return -1
	case op == "/":
		return a / b
	case op == "%" && b == 0:
		return a
	case op == "%":
		return a % b
	case op == "&":
		return a & b
	case op == "|":
		return a | b
	case op == "^":
		return a ^ b
	case op == "<<":
		return a << n
	}
	return a >> n
}
