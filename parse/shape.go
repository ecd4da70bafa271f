package parse

import "hayloft/api"

// Which fields an operation's words tell, one bit each.
const (
	fieldD = uint8(1) << iota
	fieldA
	fieldB
	fieldImm
)

// fieldsDAB is what most kinds tell.
const fieldsDAB = fieldD | fieldA | fieldB

// shape is what an operation's name stands for, and what must stand behind it.
type shape struct {
	do     int8
	fields uint8
}

// shapes answers the operations of a program by their names. (Nop and what
// turns elsewhere are the packer's: no line of a program begins with them, but
// for those words with which a block ends.)
func shapes() map[string]shape {
	return map[string]shape{
		"const":  {api.Const, fieldD | fieldImm},
		"add":    {api.Add, fieldsDAB},
		"sub":    {api.Sub, fieldsDAB},
		"and":    {api.And, fieldsDAB},
		"or":     {api.Or, fieldsDAB},
		"xor":    {api.Xor, fieldsDAB},
		"shl":    {api.Shl, fieldsDAB},
		"shr":    {api.Shr, fieldsDAB},
		"less":   {api.Less, fieldsDAB},
		"equal":  {api.Equal, fieldsDAB},
		"move":   {api.Move, fieldD | fieldA},
		"times":  {api.Times, fieldsDAB},
		"divide": {api.Divide, fieldsDAB},
		"rest":   {api.Rest, fieldsDAB},
		"load":   {api.Load, fieldD | fieldA | fieldImm},
		"store":  {api.Store, fieldA | fieldB | fieldImm},
		"print":  {api.Print, fieldA},
	}
}

func (s shape) tells(field uint8) bool { return s.fields&field != 0 }

// read reads what stands behind the name. Of every kind the words stand in one
// order: D, A, B, Imm.
func (s shape) read(l *line) api.Op {
	o := api.Op{Do: s.do}
	if s.tells(fieldD) {
		o.D = l.register()
	}
	if s.tells(fieldA) {
		o.A = l.register()
	}
	if s.tells(fieldB) {
		o.B = l.register()
	}
	if s.tells(fieldImm) {
		o.Imm = l.number()
	}
	l.close()
	return o
}
