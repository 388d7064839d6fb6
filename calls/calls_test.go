// Package calls has a test alone: that each layer has the calls that its chapter lists, just as it lists them. It does not compile if one is missing or another one.
package calls

import (
	"testing"

	"lictor/api"
	"lictor/auth"
	"lictor/change"
	"lictor/conform"
	"lictor/crc"
	"lictor/entity"
	"lictor/eval"
	"lictor/expr"
	"lictor/policy"
	"lictor/record"
	"lictor/schema"
	"lictor/sector"
	"lictor/service"
	"lictor/slots"
	"lictor/store"
	"lictor/token"
	"lictor/types"
	"lictor/value"
	"lictor/wal"
	"lictor/window"
	"lictor/wire"
)

// Layers 1 to 5.
var (
	_ func(string) uint32                                                     = crc.Sum
	_ func(uint32, string) uint32                                             = crc.More
	_ func(uint32) string                                                     = crc.Put32
	_ func(uint64) string                                                     = crc.Put64
	_ func(string) (uint32, api.Errno)                                        = crc.Get32
	_ func(string) (uint64, api.Errno)                                        = crc.Get64
	_ func(string, int) (string, api.Errno)                                   = crc.Flip
	_ func(int) (api.Disk, api.Errno)                                         = sector.New
	_ func(api.Disk) api.Errno                                                = sector.Check
	_ func(api.Disk, int) (string, api.Errno)                                 = sector.Read
	_ func(api.Disk, int, string) (api.Disk, api.Errno)                       = sector.Put
	_ func(api.Disk) (api.Disk, api.Errno)                                    = sector.Sync
	_ func(api.Disk, []bool) (api.Disk, api.Errno)                            = sector.Crash
	_ func(api.Frame) api.Errno                                               = record.Check
	_ func(api.Frame) ([]string, api.Errno)                                   = record.Sectors
	_ func(string) (api.Head, api.Errno)                                      = record.Head
	_ func(int) (int, api.Errno)                                              = record.Pieces
	_ func([]string) (api.Frame, api.Errno)                                   = record.Join
	_ func(api.Disk, api.Region) api.Errno                                    = wal.Check
	_ func(api.Disk, api.Region, uint64) ([]api.Frame, int, api.Errno)        = wal.Scan
	_ func(api.Disk, api.Region, int, api.Frame) (api.Disk, int, api.Errno)   = wal.Append
	_ func(api.Disk, api.Region, api.Region) api.Errno                        = slots.Check
	_ func(api.Disk, api.Region, api.Region) (api.Image, int, api.Errno)      = slots.Load
	_ func(api.Disk, api.Region, api.Region, api.Image) (api.Disk, api.Errno) = slots.Save
)

// Layers 6 to 10.
var (
	_ func(string) bool                                      = value.Name
	_ func(string) bool                                      = value.TypeName
	_ func(api.Uid) api.Errno                                = value.CheckUid
	_ func(api.Value) api.Errno                              = value.Check
	_ func(api.Value, api.Value) int                         = value.Compare
	_ func([]api.Value) (api.Value, api.Errno)               = value.Set
	_ func([]string, []api.Value) (api.Value, api.Errno)     = value.Record
	_ func(api.Value, string) (api.Value, api.Errno)         = value.Get
	_ func(api.Value, api.Value) bool                        = value.Has
	_ func(byte, int64, int64) (int64, api.Errno)            = value.Sum
	_ func(string) ([]api.Token, api.Errno, int)             = token.Cut
	_ func(api.Token) (string, api.Errno)                    = token.Show
	_ func(string) (string, api.Errno)                       = token.Quote
	_ func(string) (api.Expr, api.Errno, int)                = expr.Parse
	_ func([]api.Token, int) (api.Expr, int, api.Errno, int) = expr.Read
	_ func(api.Expr) api.Errno                               = expr.Check
	_ func(api.Expr) (string, api.Errno)                     = expr.Print
	_ func(string) (api.Policy, api.Errno, int)              = policy.Parse
	_ func(api.Policy) api.Errno                             = policy.Check
	_ func(api.Policy) (string, api.Errno)                   = policy.Print
	_ func(api.Policy) (api.Expr, api.Errno)                 = policy.Body
	_ func(string) (api.Schema, api.Errno, int)              = schema.Parse
	_ func(api.Schema) api.Errno                             = schema.Check
	_ func(api.Schema) (string, api.Errno)                   = schema.Print
	_ func(api.Type) api.Errno                               = schema.CheckType
	_ func(api.Type) (string, api.Errno)                     = schema.ShowType
	_ func(api.Schema, string) (api.EntityType, api.Errno)   = schema.Type
	_ func(api.Schema, string) (api.Action, api.Errno)       = schema.Action
)

// Layers 11 to 15.
var (
	_ func(api.Expr) (api.Value, api.Errno)                                  = entity.Value
	_ func(api.Value) (string, api.Errno)                                    = entity.ShowValue
	_ func(string) (api.Entity, api.Errno, int)                              = entity.Parse
	_ func(api.Entity) (string, api.Errno)                                   = entity.Print
	_ func(api.Entity) api.Errno                                             = entity.Check
	_ func([]api.Entity) api.Errno                                           = entity.CheckRow
	_ func([]api.Entity, api.Uid) (api.Entity, api.Errno)                    = entity.Find
	_ func([]api.Entity, api.Entity) ([]api.Entity, api.Errno)               = entity.Put
	_ func([]api.Entity, api.Uid) ([]api.Entity, api.Errno)                  = entity.Drop
	_ func([]api.Entity, api.Uid) ([]api.Uid, api.Errno)                     = entity.Above
	_ func(api.Request) api.Errno                                            = eval.Check
	_ func(api.Expr, api.Request, []api.Entity) (api.Value, api.Errno)       = eval.Eval
	_ func(string, string) bool                                              = eval.Like
	_ func(api.Expr, api.Request, []api.Entity) (bool, api.Errno)            = eval.Holds
	_ func(api.Type, api.Type) (api.Type, api.Errno)                         = types.Join
	_ func(api.Value, api.Type) bool                                         = types.Fits
	_ func(api.Expr, api.Schema, api.Env) (api.Type, api.Errno)              = types.Infer
	_ func(api.Expr) []api.Uid                                               = types.Uids
	_ func(api.Schema, []api.Entity, api.Entity) api.Errno                   = conform.Entity
	_ func(api.Schema, []api.Entity, api.Request) api.Errno                  = conform.Request
	_ func(api.Schema, []api.Entity, api.Policy) api.Errno                   = conform.Policy
	_ func(api.Schema, []api.Entity) (api.Errno, int)                        = conform.All
	_ func([]api.Named) api.Errno                                            = auth.Check
	_ func([]api.Named, string) (api.Policy, api.Errno)                      = auth.Find
	_ func([]api.Named, api.Named) ([]api.Named, api.Errno)                  = auth.Put
	_ func([]api.Named, string) ([]api.Named, api.Errno)                     = auth.Drop
	_ func([]api.Named, api.Request, []api.Entity) (api.Decision, api.Errno) = auth.Decide
)

// Layers 16 to 20.
var (
	_ func(api.State) api.Errno                                         = change.Check
	_ func(api.State, []api.Change) (api.State, api.Errno, int)         = change.Apply
	_ func(api.State) ([]api.Change, api.Errno)                         = change.Make
	_ func([]api.Change) (string, api.Errno)                            = change.Pack
	_ func(string) ([]api.Change, api.Errno)                            = change.Unpack
	_ func() api.Versions                                               = window.New
	_ func(api.Versions) api.Errno                                      = window.Check
	_ func(api.Versions) (uint64, api.Errno)                            = window.Last
	_ func(api.Versions, []api.Change) (api.Versions, api.Errno, int)   = window.Commit
	_ func(api.Versions, uint64) (api.State, api.Errno)                 = window.At
	_ func(api.Versions, uint64, api.Request) (api.Decision, api.Errno) = window.Decide
	_ func(api.Versions) (string, api.Errno)                            = window.Pack
	_ func(string) (api.Versions, api.Errno)                            = window.Unpack
	_ func(int) (api.Region, api.Region, api.Region, api.Errno)         = store.Regions
	_ func(api.Store) api.Errno                                         = store.Check
	_ func(api.Disk) (api.Store, api.Errno)                             = store.Format
	_ func(api.Disk) (api.Store, api.Errno)                             = store.Open
	_ func(api.Store, []api.Change) (api.Store, uint64, api.Errno, int) = store.Commit
	_ func(api.Store) (api.Store, api.Errno)                            = store.Checkpoint
	_ func(api.Ask) (string, api.Errno)                                 = wire.WriteAsk
	_ func(string) (api.Ask, api.Errno)                                 = wire.ReadAsk
	_ func(api.Reply) (string, api.Errno)                               = wire.WriteReply
	_ func(string) (api.Reply, api.Errno)                               = wire.ReadReply
	_ func(api.Server) api.Errno                                        = service.Check
	_ func(api.Disk) (api.Server, api.Errno)                            = service.Start
	_ func(api.Server, string) (api.Server, string)                     = service.Handle
	_ func(api.Server, []bool) (api.Server, api.Errno)                  = service.Crash
	_ func(api.Server, int) (api.Server, api.Errno)                     = service.Fuse
)

func TestEachLayerHasItsCalls(t *testing.T) {
	t.Log("that this compiles is the test")
}
