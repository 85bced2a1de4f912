// Package faces holds the layers' calls against the signatures that the document gives them.
package faces

import (
	"separatum/api"
	"separatum/bits"
	"separatum/body"
	"separatum/build"
	"separatum/code"
	"separatum/decl"
	"separatum/declare"
	"separatum/emit"
	"separatum/expr"
	"separatum/heap"
	"separatum/iface"
	"separatum/image"
	"separatum/judge"
	"separatum/key"
	"separatum/konst"
	"separatum/layout"
	"separatum/lex"
	"separatum/lines"
	"separatum/link"
	"separatum/mach"
	"separatum/mem"
	"separatum/obj"
	"separatum/order"
	"separatum/place"
	"separatum/rule"
	"separatum/scope"
	"separatum/stmt"
	"separatum/term"
	"separatum/tower"
	"separatum/tree"
	"separatum/types"
	"separatum/unit"
	"separatum/word"
)

// The rows are compiled just if each layer has its calls, with the signatures of its chapter.
var (
	_ func(uint16) int                            = word.Int
	_ func(int) (uint16, bool)                    = word.Of
	_ func(uint8, uint16, uint16) (uint16, uint8) = word.Does
	_ func(uint8) int                             = word.Takes
	_ func(bool, uint16, uint16, uint16) bool     = word.Within
	_ func(bool, uint16) string                   = word.Text

	_ func(uint16, int) bool      = bits.Has
	_ func(uint16, ...int) uint16 = bits.With
	_ func(uint16, ...int) uint16 = bits.Without
	_ func(int, int) uint16       = bits.Row
	_ func(uint16) int            = bits.Len
	_ func(uint16) []int          = bits.All
	_ func(uint16, uint16) bool   = bits.Part

	_ func() complex128                    = place.Begin
	_ func(int, int) complex128            = place.Of
	_ func(complex128) int                 = place.Line
	_ func(complex128) int                 = place.Column
	_ func(complex128, string) complex128  = place.Behind
	_ func(complex128, complex128) bool    = place.Before
	_ func(string, complex128) (int, bool) = place.In
	_ func(complex128) string              = place.Text
	_ func(string) (complex128, bool)      = place.Read

	_ func(string) ([]api.Token, complex128, api.Errno) = lex.Scan
	_ func(string) bool                                 = lex.Word
	_ func(string) bool                                 = lex.Name
	_ func([]api.Token) string                          = lex.Join

	_ func(uint8, complex128, string, int64, ...*api.Node) *api.Node = tree.New
	_ func(*api.Node, *api.Node) bool                                = tree.Same
	_ func(*api.Node) *api.Node                                      = tree.Copy
	_ func(*api.Node) int                                            = tree.Count
	_ func(*api.Node) int                                            = tree.Deep
	_ func(*api.Node) string                                         = tree.Text
	_ func(string) (*api.Node, api.Errno)                            = tree.Read

	_ func([]api.Token, int) (*api.Node, int, api.Errno) = expr.Expr
	_ func([]api.Token, int) (*api.Node, int, api.Errno) = expr.Designator
	_ func([]api.Token, int) (*api.Node, int, api.Errno) = expr.Qualident
	_ func([]api.Token, int) (*api.Node, int, api.Errno) = expr.Labels

	_ func([]api.Token, int) (*api.Node, int, api.Errno) = stmt.Body

	_ func([]api.Token, int) (*api.Node, int, api.Errno)         = decl.Type
	_ func([]api.Token, int) (*api.Node, int, api.Errno)         = decl.Heading
	_ func([]api.Token, int, bool) ([]*api.Node, int, api.Errno) = decl.Decls
	_ func([]api.Token, int) (*api.Node, int, api.Errno)         = decl.Block

	_ func([]api.Token) (*api.Node, int, api.Errno)   = unit.Parse
	_ func(string) (*api.Node, complex128, api.Errno) = unit.Read
	_ func(*api.Node) []string                        = unit.Imports

	_ func(any) bool                          = konst.Is
	_ func(any, any) bool                     = konst.Same
	_ func(string, any, any) (any, api.Errno) = konst.Does
	_ func(string, any) (any, api.Errno)      = konst.One
	_ func(any) (int64, bool)                 = konst.Number
	_ func(any) int64                         = konst.Must
	_ func(any) (uint16, bool)                = konst.Word
	_ func(int, int64) any                    = konst.Of

	_ func() *types.Table                           = types.New
	_ func(*types.Table, api.Type) (int, api.Errno) = (*types.Table).Add
	_ func(*types.Table, int, api.Type) api.Errno   = (*types.Table).Set
	_ func(*types.Table, int) api.Type              = (*types.Table).Get
	_ func(*types.Table) int                        = (*types.Table).Len
	_ func(*types.Table, int) int                   = (*types.Table).Base
	_ func(*types.Table, int) bool                  = (*types.Table).Ordinal
	_ func(*types.Table, int) bool                  = (*types.Table).Number
	_ func(*types.Table, int) (int64, int64, bool)  = (*types.Table).Range
	_ func(*types.Table, int, int) bool             = (*types.Table).Compatible
	_ func(*types.Table, int, int, any) bool        = (*types.Table).Assignable
	_ func(*types.Table, api.Param, int, any) bool  = (*types.Table).Passes
	_ func(*types.Table, int, int) bool             = (*types.Table).Alike

	_ func(*types.Table, int) (int, api.Errno)          = layout.Size
	_ func(*types.Table, int, int) (int, api.Errno)     = layout.At
	_ func(*types.Table, int, int64) (int, bool)        = layout.Arm
	_ func(*types.Table, []int) ([]int, int, api.Errno) = layout.Places

	_ func() *scope.Env                                  = scope.New
	_ func(*scope.Env, bool)                             = (*scope.Env).Open
	_ func(*scope.Env) bool                              = (*scope.Env).Shut
	_ func(*scope.Env, api.Entry) api.Errno              = (*scope.Env).Put
	_ func(*scope.Env, api.Entry) api.Errno              = (*scope.Env).Change
	_ func(*scope.Env, string) (api.Entry, bool)         = (*scope.Env).Find
	_ func(*scope.Env, string) (api.Entry, bool)         = (*scope.Env).Here
	_ func(*scope.Env, string) (api.Entry, bool)         = (*scope.Env).Outer
	_ func(*scope.Env, string, []api.Entry) api.Errno    = (*scope.Env).Unit
	_ func(*scope.Env, string, string) (api.Entry, bool) = (*scope.Env).Of
	_ func(*scope.Env) int                               = (*scope.Env).Deep
	_ func(*scope.Env) []string                          = (*scope.Env).Names

	_ func(api.Iface) api.Errno                  = iface.May
	_ func(api.Iface) (string, api.Errno)        = iface.Encode
	_ func(string) (api.Iface, api.Errno)        = iface.Decode
	_ func(api.Iface, api.Iface) bool            = iface.Same
	_ func(api.Iface) (api.Iface, api.Errno)     = iface.Canon
	_ func(api.Iface, string) (api.Export, bool) = iface.Of

	_ func() uint64                       = key.Begin
	_ func(uint64, string) uint64         = key.More
	_ func(string) uint64                 = key.Of
	_ func(api.Iface) (uint64, api.Errno) = key.Iface
	_ func(uint64) string                 = key.Text

	_ func(uint8) (string, bool)                  = code.Form
	_ func(...api.Ins) (string, api.Errno)        = code.Encode
	_ func(string, int) (api.Ins, int, api.Errno) = code.Decode
	_ func(string) ([]api.Ins, []int, api.Errno)  = code.All
	_ func(api.Ins) int                           = code.Size
	_ func(api.Ins, api.Ins) bool                 = code.Same
	_ func(uint8) string                          = code.Name

	_ func(int) (*mem.Memory, api.Errno)           = mem.New
	_ func(*mem.Memory, int) (uint16, bool)        = (*mem.Memory).Load
	_ func(*mem.Memory, int, uint16) bool          = (*mem.Memory).Store
	_ func(*mem.Memory, int, int, int) bool        = (*mem.Memory).Move
	_ func(*mem.Memory, int, int) bool             = (*mem.Memory).Clear
	_ func(*mem.Memory, int, int) ([]uint16, bool) = (*mem.Memory).Row
	_ func(*mem.Memory) int                        = (*mem.Memory).Len

	_ func(int, int) (*heap.Heap, api.Errno)         = heap.New
	_ func(*heap.Heap, int) (uint16, int, api.Errno) = (*heap.Heap).Make
	_ func(*heap.Heap, uint16) api.Errno             = (*heap.Heap).Free
	_ func(*heap.Heap, uint16) (int, int, api.Errno) = (*heap.Heap).At
	_ func(*heap.Heap) []uint16                      = (*heap.Heap).Live
	_ func(*heap.Heap) int                           = (*heap.Heap).Room
	_ func(*heap.Heap) uint16                        = (*heap.Heap).Last

	_ func(string, int) (*term.Term, api.Errno) = term.New
	_ func(*term.Term) byte                     = (*term.Term).Read
	_ func(*term.Term, string) bool             = (*term.Term).Write
	_ func(*term.Term) string                   = (*term.Term).Out
	_ func(*term.Term) complex128               = (*term.Term).Count

	_ func(api.Program) (int, api.Errno)                             = mach.Check
	_ func(api.Program, api.Conf, string) (*mach.Machine, api.Errno) = mach.New
	_ func(*mach.Machine, int) api.Ending                            = (*mach.Machine).Run
	_ func(*mach.Machine) string                                     = (*mach.Machine).Out
	_ func(*mach.Machine) (int, int)                                 = (*mach.Machine).Where
	_ func(*mach.Machine, int) (uint16, bool)                        = (*mach.Machine).Word
	_ func(*mach.Machine) int                                        = (*mach.Machine).Depth
	_ func(*mach.Machine) int                                        = (*mach.Machine).Blocks

	_ func(api.Module) (string, api.Errno)         = obj.Pack
	_ func(string) (api.Module, string, api.Errno) = obj.Unpack
	_ func(api.Object) bool                        = obj.May
	_ func(api.Object) (string, api.Errno)         = obj.Encode
	_ func(string) (api.Object, api.Errno)         = obj.Decode
	_ func(api.Object, api.Object) bool            = obj.Same
	_ func(api.Iface) (string, uint64, api.Errno)  = obj.Symbols
	_ func(string) (api.Iface, uint64, api.Errno)  = obj.ReadSymbols

	_ func([]api.Needs, string) ([]string, string, api.Errno) = order.Order
	_ func([]api.Needs, string) []string                      = order.Reach
	_ func([]api.Needs) []string                              = order.Cycle

	_ func([]api.Object, string) (api.Image, string, api.Errno) = link.Link
	_ func([]api.Object) []api.Needs                            = link.Needs

	_ func(api.Image) api.Errno           = image.Check
	_ func(api.Image) (string, api.Errno) = image.Encode
	_ func(string) (api.Image, api.Errno) = image.Decode
	_ func(api.Image, api.Image) bool     = image.Same
	_ func(api.Image) (int, int)          = image.Sizes

	_ func(*types.Table, *scope.Env, *api.Node) (api.Judged, complex128, api.Errno)             = judge.Expr
	_ func(*types.Table, *scope.Env, *api.Node) (api.Judged, complex128, api.Errno)             = judge.Const
	_ func(*types.Table, *scope.Env, *api.Node) (api.Entry, complex128, api.Errno)              = judge.Named
	_ func(*types.Table, *scope.Env, *api.Node, []*api.Node, bool) (int, complex128, api.Errno) = judge.Call

	_ func(*types.Table, *scope.Env, *api.Node) (int, complex128, api.Errno)                                   = declare.Type
	_ func(*types.Table, *scope.Env, api.Where, []*api.Node, bool) (int, api.Where, complex128, api.Errno)     = declare.Decls
	_ func(*types.Table, *scope.Env, api.Where, *api.Node, int) ([]api.Copy, api.Where, complex128, api.Errno) = declare.Params

	_ func(*api.Node, []api.Iface) (api.Iface, complex128, api.Errno)  = rule.Def
	_ func(*api.Node, *api.Iface, []api.Iface) (complex128, api.Errno) = rule.Unit

	_ func(*types.Table, *scope.Env, api.Here, *api.Node, int) (api.Emitted, api.Errno)         = emit.Value
	_ func(*types.Table, *scope.Env, api.Here, *api.Node) (api.Emitted, api.Errno)              = emit.Place
	_ func(*types.Table, *scope.Env, api.Here, *api.Node, []*api.Node) (api.Emitted, api.Errno) = emit.Call

	_ func(*api.Node, *api.Iface, []api.Iface) (api.Object, complex128, api.Errno) = body.Unit

	_ func() *build.Shop                                              = build.New
	_ func(*build.Shop, api.Source) (string, complex128, api.Errno)   = (*build.Shop).Put
	_ func(*build.Shop, string, bool) (string, complex128, api.Errno) = (*build.Shop).Compile
	_ func(*build.Shop, string) (string, bool)                        = (*build.Shop).Symbols
	_ func(*build.Shop, string) (string, bool)                        = (*build.Shop).Object
	_ func(*build.Shop) []string                                      = (*build.Shop).Modules
	_ func(*build.Shop, string) (api.Image, string, api.Errno)        = (*build.Shop).Link
	_ func([]api.Source, string) (api.Image, api.Diagnosis, string)   = build.All

	_ func(api.Image, api.Conf, string, int) (api.Trace, api.Errno)                        = tower.Run
	_ func([]api.Source, string, api.Conf, string, int) (api.Trace, api.Diagnosis, string) = tower.Play
	_ func(api.Trace, api.Trace) bool                                                      = tower.Same
	_ func(api.Trace, api.Trace) bool                                                      = tower.Begins

	_ func() *lines.Works                       = lines.New
	_ func(*lines.Works, api.Op) api.Answer     = (*lines.Works).Do
	_ func(string) string                       = lines.Word
	_ func(string) (string, bool)               = lines.Text
	_ func(api.Op) (string, api.Errno)          = lines.Line
	_ func(string) (api.Op, api.Errno)          = lines.Op
	_ func(...api.Op) (string, api.Errno)       = lines.Lines
	_ func(string) ([]api.Op, int, api.Errno)   = lines.Parse
	_ func(api.Op, api.Op) bool                 = lines.Same
	_ func(...api.Op) ([]api.Answer, api.Errno) = lines.Play
)
