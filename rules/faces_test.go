package rules

// faces_test.go: each call that the chapters list stands with the signature that they give it. That this file compiles is the test.

import (
	"iter"

	"entrepot/api"
	"entrepot/ask"
	"entrepot/audit"
	"entrepot/backlog"
	"entrepot/backoff"
	"entrepot/bins"
	"entrepot/boxes"
	"entrepot/cells"
	"entrepot/count"
	"entrepot/crc"
	"entrepot/desk"
	"entrepot/goods"
	"entrepot/hold"
	"entrepot/ident"
	"entrepot/items"
	"entrepot/life"
	"entrepot/link"
	"entrepot/mail"
	"entrepot/model"
	"entrepot/move"
	"entrepot/node"
	"entrepot/parcel"
	"entrepot/plan"
	"entrepot/region"
	"entrepot/saga"
	"entrepot/sector"
	"entrepot/stock"
	"entrepot/wal"
	"entrepot/world"
)

// Chapter 01-cells.
var (
	_ func(int) []byte                        = cells.Num
	_ func([]byte) (int, int, api.Errno)      = cells.First
	_ func() *cells.Maker                     = cells.New
	_ func(*cells.Maker, int) *cells.Maker    = (*cells.Maker).Num
	_ func(*cells.Maker, string) *cells.Maker = (*cells.Maker).Text
	_ func(*cells.Maker, bool) *cells.Maker   = (*cells.Maker).Flag
	_ func(*cells.Maker) ([]byte, api.Errno)  = (*cells.Maker).Done
	_ func([]byte) *cells.Taker               = cells.Take
	_ func(*cells.Taker, int, int) int        = (*cells.Taker).Num
	_ func(*cells.Taker, int) string          = (*cells.Taker).Text
	_ func(*cells.Taker) bool                 = (*cells.Taker).Flag
	_ func(*cells.Taker) int                  = (*cells.Taker).Left
	_ func(*cells.Taker) api.Errno            = (*cells.Taker).Done
	_ func(...[]byte) []byte                  = cells.Join
	_ func([]byte) ([][]byte, api.Errno)      = cells.Split
	_ func([]byte, int) [][]byte              = cells.Parts
)

// Chapter 02-crc.
var (
	_ func(uint32, byte) uint32                                    = crc.Step
	_ func() *crc.Table                                            = crc.New
	_ func(*crc.Table, []byte) uint32                              = (*crc.Table).Sum
	_ func(*crc.Table, uint32, []byte) uint32                      = (*crc.Table).On
	_ func(uint64, []byte) uint64                                  = crc.Mix
	_ func(*crc.Table, uint64, []byte) ([]byte, uint64, api.Errno) = (*crc.Table).Frame
	_ func(*crc.Table, uint64, []byte) ([]byte, uint64, api.Errno) = (*crc.Table).Open
	_ func(*crc.Table, uint64, []byte) ([][]byte, uint64, int)     = (*crc.Table).All
)

// Chapter 03-sector.
var (
	_ func(int) (*sector.Device, api.Errno)           = sector.New
	_ func(*sector.Device, int, []byte) api.Errno     = (*sector.Device).Write
	_ func(*sector.Device, int) ([]byte, api.Errno)   = (*sector.Device).Read
	_ func(*sector.Device) api.Errno                  = (*sector.Device).Flush
	_ func(*sector.Device, int)                       = (*sector.Device).Stop
	_ func(*sector.Device) bool                       = (*sector.Device).Off
	_ func(*sector.Device, []int, int, int) api.Errno = (*sector.Device).Crash
	_ func(*sector.Device) iter.Seq[int]              = (*sector.Device).Dirty
	_ func(*sector.Device) int                        = (*sector.Device).Len
	_ func(*sector.Device) (int, int)                 = (*sector.Device).Counts
)

// Chapter 04-wal.
var (
	_ func(*sector.Device) (*wal.Log, api.Errno) = wal.Open
	_ func(*wal.Log, []byte) (int, api.Errno)    = (*wal.Log).Append
	_ func(*wal.Log) api.Errno                   = (*wal.Log).Sync
	_ func(*wal.Log, [][]byte) api.Errno         = (*wal.Log).Compact
	_ func(*wal.Log) iter.Seq2[int, []byte]      = (*wal.Log).Entries
	_ func(*wal.Log) int                         = (*wal.Log).Len
	_ func(*wal.Log) int                         = (*wal.Log).Sure
	_ func(*wal.Log) int                         = (*wal.Log).Room
	_ func(*wal.Log) int                         = (*wal.Log).Generation
)

// Chapter 05-count.
var (
	_ func(int) bool                            = count.May
	_ func(int, int) (int, api.Errno)           = count.Add
	_ func(int, int) (int, api.Errno)           = count.Less
	_ func(int, int, int) (int, int, api.Errno) = count.Move
	_ func(...int) (int, api.Errno)             = count.Sum
	_ func(int, []int) ([]int, api.Errno)       = count.Share
	_ func() *count.Tally                       = count.New
	_ func(*count.Tally, int, int) int          = (*count.Tally).Mark
	_ func(*count.Tally, int) int               = (*count.Tally).Get
	_ func(*count.Tally, int, int) bool         = (*count.Tally).Most
	_ func(*count.Tally, int, int) bool         = (*count.Tally).Take
	_ func(*count.Tally) [api.Marks]int         = (*count.Tally).All
	_ func(*count.Tally) bool                   = (*count.Tally).Start
)

// Chapter 06-items.
var (
	_ func(string) bool                                    = items.Good
	_ func([]api.Item) bool                                = items.May
	_ func([]api.Item) ([]api.Item, api.Errno)             = items.Norm
	_ func([]api.Item, []api.Item) ([]api.Item, api.Errno) = items.Plus
	_ func([]api.Item, []api.Item) ([]api.Item, api.Errno) = items.Minus
	_ func([]api.Item, []api.Item) []api.Item              = items.Meet
	_ func([]api.Item, []api.Item) []api.Item              = items.Rest
	_ func([]api.Item, []api.Item) bool                    = items.Covers
	_ func([]api.Item, string) int                         = items.Of
	_ func([]api.Item) int                                 = items.Total
	_ func([]api.Item) ([]byte, api.Errno)                 = items.Encode
	_ func([]byte) ([]api.Item, api.Errno)                 = items.Decode
	_ func([]api.Item) iter.Seq2[string, int]              = items.All
	_ func(*cells.Maker, []api.Item) *cells.Maker          = items.Put
	_ func(*cells.Taker) []api.Item                        = items.Take
)

// Chapter 07-stock.
var (
	_ func() *stock.Stock                              = stock.New
	_ func(*stock.Stock, int, []api.Item) api.Errno    = (*stock.Stock).Do
	_ func(*stock.Stock, string, int) (int, api.Errno) = (*stock.Stock).Count
	_ func(*stock.Stock, string) api.Level             = (*stock.Stock).Level
	_ func(*stock.Stock, string) api.Flow              = (*stock.Stock).Flow
	_ func(*stock.Stock, []api.Item) []api.Item        = (*stock.Stock).Offer
	_ func(*stock.Stock) iter.Seq[string]              = (*stock.Stock).Goods
	_ func(*stock.Stock) []byte                        = (*stock.Stock).Pack
	_ func([]byte) (*stock.Stock, api.Errno)           = stock.Unpack
	_ func(*stock.Stock) *stock.Stock                  = (*stock.Stock).Fork
	_ func(api.Level, api.Flow) bool                   = stock.Balanced
)

// Chapter 08-hold.
var (
	_ func() *hold.Shelf                                         = hold.New
	_ func(*hold.Shelf, int, []api.Item) ([]api.Item, api.Errno) = (*hold.Shelf).Take
	_ func(*hold.Shelf, int) ([]api.Item, api.Errno)             = (*hold.Shelf).Free
	_ func(*hold.Shelf, int) ([]api.Item, api.Errno)             = (*hold.Shelf).Pick
	_ func(*hold.Shelf, int) ([]api.Item, api.Errno)             = (*hold.Shelf).Unpick
	_ func(*hold.Shelf, int) ([]api.Item, api.Errno)             = (*hold.Shelf).Ship
	_ func(*hold.Shelf, int, []api.Item) api.Errno               = (*hold.Shelf).Do
	_ func(*hold.Shelf, string, int) (int, api.Errno)            = (*hold.Shelf).Count
	_ func(*hold.Shelf, int) api.Hold                            = (*hold.Shelf).Hold
	_ func(*hold.Shelf) iter.Seq[api.Hold]                       = (*hold.Shelf).Orders
	_ func(*hold.Shelf) *stock.Stock                             = (*hold.Shelf).Stock
	_ func(*hold.Shelf) bool                                     = (*hold.Shelf).Sound
	_ func(*hold.Shelf) []byte                                   = (*hold.Shelf).Pack
	_ func([]byte) (*hold.Shelf, api.Errno)                      = hold.Unpack
)

// Chapter 09-ident.
var (
	_ func() *ident.Table                                    = ident.New
	_ func(*ident.Table, int, int, []byte) (int, api.Answer) = (*ident.Table).Ask
	_ func(*ident.Table, api.Answer) api.Errno               = (*ident.Table).Tell
	_ func(*ident.Table, int, int) api.Errno                 = (*ident.Table).Low
	_ func(*ident.Table, int) int                            = (*ident.Table).Mark
	_ func(*ident.Table) iter.Seq2[int, int]                 = (*ident.Table).Open
	_ func(*ident.Table, int) int                            = (*ident.Table).Len
	_ func(*ident.Table) []byte                              = (*ident.Table).Pack
	_ func([]byte) (*ident.Table, api.Errno)                 = ident.Unpack
)

// Chapter 10-ask.
var (
	_ func(api.Ask) bool                = ask.May
	_ func(api.Ask) ([]byte, api.Errno) = ask.Encode
	_ func([]byte) (api.Ask, api.Errno) = ask.Decode
	_ func(api.Ask) []byte              = ask.Body
	_ func(api.Ask) int                 = ask.Order
	_ func(int) int                     = ask.Owner
	_ func(int, int) int                = ask.Home
	_ func(api.Ask, api.Ask) bool       = ask.Same
	_ func(int) string                  = ask.Has
)

// Chapter 11-backoff.
var (
	_ func(int, int, int) int                   = backoff.Wait
	_ func(int, int, int, int) int              = backoff.Next
	_ func() *backoff.Timers                    = backoff.New
	_ func(*backoff.Timers, int, int)           = (*backoff.Timers).Set
	_ func(*backoff.Timers, int) bool           = (*backoff.Timers).Drop
	_ func(*backoff.Timers, int) (int, bool)    = (*backoff.Timers).At
	_ func(*backoff.Timers, int) []int          = (*backoff.Timers).Due
	_ func(*backoff.Timers, int) (int, bool)    = (*backoff.Timers).Pop
	_ func(*backoff.Timers) (int, bool)         = (*backoff.Timers).First
	_ func(*backoff.Timers) int                 = (*backoff.Timers).Len
	_ func(*backoff.Timers) iter.Seq2[int, int] = (*backoff.Timers).All
)

// Chapter 12-link.
var (
	_ func() *link.End                                       = link.New
	_ func(*link.End, []byte, int) (api.Packet, api.Errno)   = (*link.End).Send
	_ func(*link.End, int) []api.Packet                      = (*link.End).Tick
	_ func(*link.End, api.Packet) ([]byte, bool, api.Packet) = (*link.End).On
	_ func(*link.End) int                                    = (*link.End).Open
	_ func(*link.End) int                                    = (*link.End).Mark
	_ func(*link.End) int                                    = (*link.End).Sent
	_ func(*link.End) []byte                                 = (*link.End).Pack
	_ func([]byte) (*link.End, api.Errno)                    = link.Unpack
	_ func(api.Packet) bool                                  = link.May
	_ func(api.Packet) ([]byte, api.Errno)                   = link.Encode
	_ func([]byte) (api.Packet, api.Errno)                   = link.Decode
)

// Chapter 13-mail.
var (
	_ func(api.Mail) bool                = mail.May
	_ func(api.Mail) ([]byte, api.Errno) = mail.Encode
	_ func([]byte) (api.Mail, api.Errno) = mail.Decode
	_ func(api.Mail, api.Mail) bool      = mail.Same
	_ func(int) string                   = mail.Has
	_ func(int) int                      = mail.Answers
)

// Chapter 14-plan.
var (
	_ func(int, int) []int                                      = plan.Visit
	_ func([]api.Item, [][]api.Item) ([][]api.Item, []api.Item) = plan.Split
	_ func([]api.Item, [][]api.Item) []api.Item                 = plan.Missing
	_ func([]api.Item, [][]api.Item) bool                       = plan.Enough
	_ func([]api.Item, [][]api.Item) []int                      = plan.Fewest
)

// Chapter 15-saga.
var (
	_ func(int, int, int, []api.Item, bool) (api.Saga, []api.Step, api.Errno) = saga.Begin
	_ func(api.Saga, api.Event) (api.Saga, []api.Step, api.Errno)             = saga.Next
	_ func(api.Saga) bool                                                     = saga.May
	_ func(int) bool                                                          = saga.Over
	_ func(api.Saga) []int                                                    = saga.Holders
	_ func(api.Saga, api.Saga) bool                                           = saga.Same
	_ func(api.Saga) ([]byte, api.Errno)                                      = saga.Encode
	_ func([]byte) (api.Saga, api.Errno)                                      = saga.Decode
)

// Chapter 16-backlog.
var (
	_ func() *backlog.Backlog                     = backlog.New
	_ func(*backlog.Backlog, int) api.Errno       = (*backlog.Backlog).Push
	_ func(*backlog.Backlog, int) bool            = (*backlog.Backlog).Drop
	_ func(*backlog.Backlog)                      = (*backlog.Backlog).News
	_ func(*backlog.Backlog) (int, bool)          = (*backlog.Backlog).Try
	_ func(*backlog.Backlog, int) bool            = (*backlog.Backlog).Back
	_ func(*backlog.Backlog) int                  = (*backlog.Backlog).Out
	_ func(*backlog.Backlog, int) int             = (*backlog.Backlog).Place
	_ func(*backlog.Backlog) int                  = (*backlog.Backlog).Len
	_ func(*backlog.Backlog) iter.Seq2[int, bool] = (*backlog.Backlog).All
	_ func(*backlog.Backlog) []byte               = (*backlog.Backlog).Pack
	_ func([]byte) (*backlog.Backlog, api.Errno)  = backlog.Unpack
)

// Chapter 17-parcel.
var (
	_ func() *parcel.Parcels                                = parcel.New
	_ func(*parcel.Parcels, int, []api.Item) api.Errno      = (*parcel.Parcels).Open
	_ func(*parcel.Parcels, int, int, []api.Item) api.Errno = (*parcel.Parcels).Ship
	_ func(*parcel.Parcels, int, []api.Item) api.Errno      = (*parcel.Parcels).Back
	_ func(*parcel.Parcels, int, []api.Item) api.Errno      = (*parcel.Parcels).Undo
	_ func(*parcel.Parcels, int) (api.Parcel, bool)         = (*parcel.Parcels).Parcel
	_ func(*parcel.Parcels, int) []api.Item                 = (*parcel.Parcels).Left
	_ func(*parcel.Parcels) iter.Seq[api.Parcel]            = (*parcel.Parcels).All
	_ func(*parcel.Parcels) int                             = (*parcel.Parcels).Len
	_ func(*parcel.Parcels) []byte                          = (*parcel.Parcels).Pack
	_ func([]byte) (*parcel.Parcels, api.Errno)             = parcel.Unpack
)

// Chapter 18-goods.
var (
	_ func([]*stock.Stock) []api.Total       = goods.Totals
	_ func([]*stock.Stock, string) api.Total = goods.Total
	_ func(api.Total) bool                   = goods.Kept
	_ func([]*stock.Stock) bool              = goods.All
	_ func([]*stock.Stock) iter.Seq[string]  = goods.Goods
	_ func(api.Level, api.Level) api.Level   = goods.Level
	_ func(api.Flow, api.Flow) api.Flow      = goods.Flow
)

// Chapter 19-move.
var (
	_ func() *move.Moves                                     = move.New
	_ func(*move.Moves, int, int, int, []api.Item) api.Errno = (*move.Moves).Go
	_ func(*move.Moves, int) ([]api.Item, api.Errno)         = (*move.Moves).Come
	_ func(*move.Moves, int) api.Errno                       = (*move.Moves).Forget
	_ func(*move.Moves, int) (api.Way, bool)                 = (*move.Moves).Move
	_ func(*move.Moves, int, int) []api.Item                 = (*move.Moves).Under
	_ func(*move.Moves) iter.Seq[api.Way]                    = (*move.Moves).All
	_ func(*move.Moves) int                                  = (*move.Moves).Len
	_ func(*move.Moves) []byte                               = (*move.Moves).Pack
	_ func([]byte) (*move.Moves, api.Errno)                  = move.Unpack
)

// Chapter 20-life.
var (
	_ func(int) string                 = life.Name
	_ func(string) (int, bool)         = life.Named
	_ func(int, int) bool              = life.May
	_ func(int) []int                  = life.Behind
	_ func(int) bool                   = life.Quiet
	_ func(int, int) (api.Errno, bool) = life.Code
	_ func(int, int) bool              = life.Reach
)

// Chapter 21-desk.
var (
	_ func(int, int) (*desk.Desk, api.Errno)         = desk.New
	_ func(*desk.Desk, api.Ask, int) []api.Post      = (*desk.Desk).Ask
	_ func(*desk.Desk, api.Mail, int) []api.Post     = (*desk.Desk).Mail
	_ func(*desk.Desk, int) (api.Saga, bool)         = (*desk.Desk).Saga
	_ func(*desk.Desk) iter.Seq[api.Saga]            = (*desk.Desk).Sagas
	_ func(*desk.Desk, int) (api.Parcel, bool)       = (*desk.Desk).Parcel
	_ func(*desk.Desk) int                           = (*desk.Desk).Open
	_ func(*desk.Desk) int                           = (*desk.Desk).Waiting
	_ func(*desk.Desk) []byte                        = (*desk.Desk).Pack
	_ func(*desk.Desk) []byte                        = (*desk.Desk).Save
	_ func([]byte, int, int) (*desk.Desk, api.Errno) = desk.Load
)

// Chapter 22-region.
var (
	_ func(int, int) (*region.Region, api.Errno)         = region.New
	_ func(*region.Region, api.Mail, int) []api.Post     = (*region.Region).Mail
	_ func(*region.Region) *stock.Stock                  = (*region.Region).Shelf
	_ func(*region.Region, int) api.Hold                 = (*region.Region).Hold
	_ func(*region.Region) iter.Seq[api.Hold]            = (*region.Region).Orders
	_ func(*region.Region) bool                          = (*region.Region).Sound
	_ func(*region.Region) int                           = (*region.Region).Stuck
	_ func(*region.Region) []byte                        = (*region.Region).Pack
	_ func(*region.Region) []byte                        = (*region.Region).Save
	_ func([]byte, int, int) (*region.Region, api.Errno) = region.Load
)

// Chapter 23-node.
var (
	_ func(*sector.Device, int, int) (*node.Node, api.Errno) = node.Open
	_ func(*node.Node) ([]api.Sent, api.Errno)               = (*node.Node).Tick
	_ func(*node.Node, []byte) ([]api.Sent, api.Errno)       = (*node.Node).Ask
	_ func(*node.Node, int, []byte) ([]api.Sent, api.Errno)  = (*node.Node).On
	_ func(*node.Node) *desk.Desk                            = (*node.Node).Desk
	_ func(*node.Node) *region.Region                        = (*node.Node).Region
	_ func(*node.Node) int                                   = (*node.Node).Open
	_ func(*node.Node) int                                   = (*node.Node).Late
	_ func(*node.Node) int                                   = (*node.Node).Len
	_ func(*node.Node) []byte                                = (*node.Node).State
	_ func(*node.Node) api.Errno                             = (*node.Node).Checkpoint
	_ func(*node.Node) int                                   = (*node.Node).Used
)

// Chapter 24-world.
var (
	_ func(api.World) (*world.World, api.Errno)       = world.New
	_ func(*world.World, api.Act) api.Errno           = (*world.World).Do
	_ func(*world.World, int) *node.Node              = (*world.World).Node
	_ func(*world.World) int                          = (*world.World).Regions
	_ func(*world.World, int, int) (api.Answer, bool) = (*world.World).Answer
	_ func(*world.World) iter.Seq[api.Answer]         = (*world.World).Answers
	_ func(*world.World) iter.Seq[api.Ask]            = (*world.World).Asked
	_ func(*world.World) bool                         = (*world.World).Unlike
	_ func(*world.World) int                          = (*world.World).Way
	_ func(*world.World) int                          = (*world.World).Up
	_ func(*world.World, int) bool                    = (*world.World).Off
)

// Chapter 25-model.
var (
	_ func(int, string, []api.Ask, []api.Answer) api.Range = model.Span
	_ func(int, []api.Ask) []api.Item                      = model.Wanted
	_ func([]api.Ask) []int                                = model.Orders
	_ func(int, int, []api.Ask) bool                       = model.Plain
	_ func(int, int, []api.Answer) int                     = model.State
	_ func(int, api.Range) bool                            = model.Within
	_ func([]api.Ask) iter.Seq[string]                     = model.Goods
)

// Chapter 26-audit.
var (
	_ func(*world.World) bool           = audit.Sound
	_ func(*world.World) bool           = audit.Kept
	_ func(*world.World) bool           = audit.Flows
	_ func(*world.World) bool           = audit.Parcels
	_ func(*world.World) bool           = audit.Held
	_ func(*world.World) bool           = audit.Quiet
	_ func(*world.World) []*stock.Stock = audit.Shelves
	_ func(int, int) int                = audit.Bound
)

// Chapter 27-bins.
var (
	_ func([]api.Bin) (*bins.Floor, api.Errno)                = bins.New
	_ func(*bins.Floor, string, int) ([]api.Place, api.Errno) = (*bins.Floor).Put
	_ func(*bins.Floor, string, int) ([]api.Place, api.Errno) = (*bins.Floor).Take
	_ func(*bins.Floor, string, int, int, int) api.Errno      = (*bins.Floor).Move
	_ func(*bins.Floor, int, string, int) (int, api.Errno)    = (*bins.Floor).Count
	_ func(*bins.Floor, string) int                           = (*bins.Floor).Of
	_ func(*bins.Floor, int) []api.Item                       = (*bins.Floor).In
	_ func(*bins.Floor, int) int                              = (*bins.Floor).Left
	_ func(*bins.Floor) iter.Seq[api.Bin]                     = (*bins.Floor).Bins
	_ func(*bins.Floor, []api.Place) []api.Place              = (*bins.Floor).Route
	_ func(*bins.Floor, []api.Place) int                      = (*bins.Floor).Way
	_ func(*bins.Floor) []byte                                = (*bins.Floor).Pack
	_ func([]byte) (*bins.Floor, api.Errno)                   = bins.Unpack
)

// Chapter 28-boxes.
var (
	_ func([]api.Item, []api.Size, api.Box) ([][]api.Item, api.Errno) = boxes.Pack
	_ func([]api.Item, []api.Size, api.Box) (int, api.Errno)          = boxes.Least
	_ func([]api.Size) bool                                           = boxes.Sizes
	_ func(int, int, int) (string, api.Errno)                         = boxes.Label
	_ func(string) (int, int, int, api.Errno)                         = boxes.Read
	_ func([][]api.Item) (string, api.Errno)                          = boxes.List
	_ func(string) ([][]api.Item, api.Errno)                          = boxes.Parse
	_ func([][]api.Item) iter.Seq2[int, api.Item]                     = boxes.All
)
