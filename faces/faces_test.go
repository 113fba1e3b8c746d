// Package faces holds the layers' calls and the given numbers against the document.
package faces

import (
	"iter"
	"testing"

	"phalanx/abstract"
	"phalanx/api"
	"phalanx/assign"
	"phalanx/cache"
	"phalanx/cell"
	"phalanx/class"
	"phalanx/clear"
	"phalanx/cluster"
	"phalanx/codec"
	"phalanx/command"
	"phalanx/console"
	"phalanx/decide"
	"phalanx/digest"
	"phalanx/fixed"
	"phalanx/grid"
	"phalanx/heap"
	"phalanx/hier"
	"phalanx/log"
	"phalanx/occupy"
	"phalanx/order"
	"phalanx/parts"
	"phalanx/portal"
	"phalanx/reserve"
	"phalanx/route"
	"phalanx/session"
	"phalanx/settle"
	"phalanx/sim"
	"phalanx/slots"
	"phalanx/smooth"
	"phalanx/unit"
	"phalanx/wire"
)

// TestCalls does not compile, if a chapter's call is missing or has another signature.
func TestCalls(t *testing.T) {
	// Layer 1.
	var _ func(a, b int64) (int64, bool) = fixed.Add
	var _ func(a, b int64) (int64, bool) = fixed.Sub
	var _ func(a, b int64) (int64, bool) = fixed.Mul
	var _ func(a, b int64) (int64, bool) = fixed.Div
	var _ func(a, b int64) (int64, bool) = fixed.Mod
	var _ func(a int64, n int) (int64, bool) = fixed.Shl
	var _ func(a int64) (int64, bool) = fixed.Sqrt
	var _ func(a int64, bits int) (int64, bool) = fixed.Narrow
	var _ func(n int64) (int64, bool) = fixed.From
	var _ func(q int64) int64 = fixed.Floor
	var _ func(a, b int64) (int64, bool) = fixed.MulQ
	var _ func(a, b int64) (int64, bool) = fixed.DivQ
	var _ func(dx, dy int64) (int64, bool) = fixed.Octile
	// Layer 2.
	var _ func(b []byte, n uint64) []byte = wire.Uvarint
	var _ func(b []byte, n int64) []byte = wire.Varint
	var _ func(b []byte, n uint32) []byte = wire.Fixed4
	var _ func(b []byte, n uint64) []byte = wire.Fixed8
	var _ func(b []byte, s []byte) []byte = wire.Bytes
	var _ func(b []byte) *wire.Reader = wire.Read
	var _ func(x *wire.Reader) uint64 = (*wire.Reader).Uvarint
	var _ func(x *wire.Reader) int64 = (*wire.Reader).Varint
	var _ func(x *wire.Reader) uint32 = (*wire.Reader).Fixed4
	var _ func(x *wire.Reader) uint64 = (*wire.Reader).Fixed8
	var _ func(x *wire.Reader) byte = (*wire.Reader).Byte
	var _ func(x *wire.Reader, most int) int = (*wire.Reader).Number
	var _ func(x *wire.Reader, most int) []byte = (*wire.Reader).Bytes
	var _ func(x *wire.Reader) api.Errno = (*wire.Reader).Err
	var _ func(x *wire.Reader) int = (*wire.Reader).Left
	var _ func(x *wire.Reader) api.Errno = (*wire.Reader).Done
	// Layer 3.
	var _ func(c api.Cell) bool = cell.Near
	var _ func(c api.Cell, dir int) (api.Cell, bool) = cell.Step
	var _ func(from, to api.Cell) int = cell.Dir
	var _ func(dir int) int = cell.Back
	var _ func(dir int) int = cell.Cost
	var _ func(c api.Cell, dir int) (a, b api.Cell, ok bool) = cell.Sides
	var _ func(c api.Cell, in api.Rect) iter.Seq2[int, api.Cell] = cell.Around
	var _ func(a, b api.Cell) int = cell.Apart
	var _ func(a, b api.Cell) int = cell.Octile
	var _ func(r api.Rect) bool = cell.May
	var _ func(r api.Rect, c api.Cell) bool = cell.Has
	var _ func(r api.Rect) iter.Seq[api.Cell] = cell.Cells
	var _ func(a, b api.Rect) (api.Rect, bool) = cell.Meet
	var _ func(a, b api.Rect) api.Rect = cell.Hull
	var _ func(r, all api.Rect) bool = cell.Within
	var _ func(a, b api.Cell) bool = cell.Less
	// Layer 4.
	var _ func(m api.Map) api.Errno = grid.Check
	var _ func(m api.Map) (*grid.World, api.Errno) = grid.New
	var _ func(x *grid.World) api.Rect = (*grid.World).All
	var _ func(x *grid.World, c api.Cell) (int, bool) = (*grid.World).Terrain
	var _ func(x *grid.World, c api.Cell) (int, bool) = (*grid.World).At
	var _ func(x *grid.World, b api.Building) api.Errno = (*grid.World).May
	var _ func(x *grid.World, b api.Building) api.Errno = (*grid.World).Place
	var _ func(x *grid.World, id int) (api.Rect, api.Errno) = (*grid.World).Raze
	var _ func(x *grid.World, id int) (api.Rect, bool) = (*grid.World).Find
	var _ func(x *grid.World) iter.Seq[api.Building] = (*grid.World).Buildings
	var _ func(x *grid.World) int = (*grid.World).Epoch
	var _ func(x *grid.World, epoch int) []api.Rect = (*grid.World).Dirty
	var _ func(x *grid.World) api.Map = (*grid.World).Map
	var _ func(x *grid.World) *grid.World = (*grid.World).Copy
	// Layer 5.
	var _ func() *occupy.Index = occupy.New
	var _ func(x *occupy.Index, r api.Rect, but int) bool = (*occupy.Index).Free
	var _ func(x *occupy.Index, id int, r api.Rect) api.Errno = (*occupy.Index).Put
	var _ func(x *occupy.Index, id int, to api.Cell) api.Errno = (*occupy.Index).Move
	var _ func(x *occupy.Index, id int) api.Errno = (*occupy.Index).Take
	var _ func(x *occupy.Index, c api.Cell) (int, bool) = (*occupy.Index).At
	var _ func(x *occupy.Index, id int) (api.Rect, bool) = (*occupy.Index).Find
	var _ func(x *occupy.Index) int = (*occupy.Index).Len
	var _ func(x *occupy.Index) iter.Seq2[int, api.Rect] = (*occupy.Index).All
	var _ func(x *occupy.Index, r api.Rect) []int = (*occupy.Index).Within
	// Layer 6.
	var _ func(s api.Shape) bool = class.May
	var _ func(class, terrain int) bool = class.On
	var _ func(s api.Shape, c api.Cell) api.Rect = class.Foot
	var _ func(w *grid.World, s api.Shape, c api.Cell) bool = class.Stands
	var _ func(w *grid.World, s api.Shape, from api.Cell, dir int) bool = class.Steps
	var _ func(w *grid.World, s api.Shape, from api.Cell, path []api.Cell) bool = class.Legal
	var _ func(from api.Cell, path []api.Cell) int = class.Cost
	var _ func(w *grid.World, s api.Shape, from api.Cell) iter.Seq2[int, api.Cell] = class.Around
	// Layer 7.
	var _ func(w *grid.World, class int, c api.Cell) int = clear.Of
	var _ func(w *grid.World, class int) (*clear.Field, api.Errno) = clear.New
	var _ func(x *clear.Field, c api.Cell) int = (*clear.Field).At
	var _ func(x *clear.Field) int = (*clear.Field).Epoch
	var _ func(x *clear.Field) (int, api.Errno) = (*clear.Field).Update
	var _ func(x *clear.Field, size int) int = (*clear.Field).Count
	// Layer 8.
	var _ func(w *grid.World, s api.Shape) (*parts.Parts, api.Errno) = parts.New
	var _ func(x *parts.Parts, c api.Cell) int = (*parts.Parts).At
	var _ func(x *parts.Parts) int = (*parts.Parts).Len
	var _ func(x *parts.Parts, n int) int = (*parts.Parts).Size
	var _ func(x *parts.Parts, n int) (api.Cell, bool) = (*parts.Parts).First
	var _ func(x *parts.Parts, a, b api.Cell) bool = (*parts.Parts).Joined
	var _ func(x *parts.Parts) (bool, api.Errno) = (*parts.Parts).Update
	// Layer 9.
	var _ func(ahead func(a, b int) bool) *heap.Heap[int] = heap.New[int]
	var _ func(x *heap.Heap[int], v int) = (*heap.Heap[int]).Push
	var _ func(x *heap.Heap[int]) (int, bool) = (*heap.Heap[int]).Pop
	var _ func(x *heap.Heap[int]) (int, bool) = (*heap.Heap[int]).Top
	var _ func(x *heap.Heap[int]) int = (*heap.Heap[int]).Len
	var _ func(x *heap.Heap[int]) iter.Seq[int] = (*heap.Heap[int]).Drain
	// Layer 10.
	var _ func(w *grid.World, s api.Shape, from, to api.Cell, in api.Rect, budget int) (api.Way, int) = route.Find
	var _ func(w *grid.World, s api.Shape, from api.Cell, in api.Rect) ([]int, api.Errno) = route.Costs
	// Layer 11.
	var _ func(c api.Cell) api.Cell = cluster.Of
	var _ func(w *grid.World, k api.Cell) (api.Rect, bool) = cluster.Rect
	var _ func(w *grid.World) iter.Seq[api.Cell] = cluster.All
	var _ func(w *grid.World, k api.Cell) iter.Seq2[int, api.Cell] = cluster.Around
	var _ func(from api.Cell, path []api.Cell) int = cluster.Crossed
	var _ func(w *grid.World, r api.Rect) []api.Cell = cluster.Touched
	// Layer 12.
	var _ func(w *grid.World, s api.Shape, k api.Cell, dir int) []api.Portal = portal.Between
	var _ func(w *grid.World, s api.Shape) []api.Portal = portal.All
	var _ func(w *grid.World, s api.Shape, k api.Cell, dir int) []api.Rect = portal.Runs
	// Layer 13.
	var _ func(w *grid.World, s api.Shape) (*abstract.Graph, api.Errno) = abstract.New
	var _ func(x *abstract.Graph) iter.Seq[api.Cell] = (*abstract.Graph).Nodes
	var _ func(x *abstract.Graph, c api.Cell) []api.Edge = (*abstract.Graph).Edges
	var _ func(x *abstract.Graph, k api.Cell) []api.Cell = (*abstract.Graph).Within
	var _ func(x *abstract.Graph) int = (*abstract.Graph).Len
	var _ func(x *abstract.Graph) (int, api.Errno) = (*abstract.Graph).Update
	var _ func(x *abstract.Graph) int = (*abstract.Graph).Epoch
	var _ func(x *abstract.Graph) api.Shape = (*abstract.Graph).Shape
	var _ func(x *abstract.Graph) *grid.World = (*abstract.Graph).World
	// Layer 14.
	var _ func(g *abstract.Graph, from, to api.Cell) (api.Way, int) = hier.Find
	var _ func(g *abstract.Graph, from, to api.Cell) ([]api.Cell, int, bool) = hier.Course
	// Layer 15.
	var _ func(from, to api.Cell) []api.Cell = smooth.Line
	var _ func(w *grid.World, s api.Shape, from api.Cell, path []api.Cell) ([]api.Cell, api.Errno) = smooth.Smooth
	var _ func(from api.Cell, path []api.Cell) int = smooth.Turns
	// Layer 16.
	var _ func(room int) (*cache.Cache, api.Errno) = cache.New
	var _ func(x *cache.Cache, k api.WayKey, epoch int) (api.Way, bool) = (*cache.Cache).Get
	var _ func(x *cache.Cache, k api.WayKey, epoch int, w api.Way) api.Errno = (*cache.Cache).Put
	var _ func(x *cache.Cache) int = (*cache.Cache).Len
	var _ func(x *cache.Cache) iter.Seq2[api.WayKey, api.Way] = (*cache.Cache).All
	// Layer 17.
	var _ func(n int) int = slots.Columns
	var _ func(l []api.Shape, at api.Cell) ([]api.Cell, api.Errno) = slots.Layout
	var _ func(l []api.Shape, at api.Cell) (api.Rect, api.Errno) = slots.Box
	// Layer 18.
	var _ func(units, places []api.Cell) ([]int, api.Errno) = assign.Match
	var _ func(units, places []api.Cell, m []int) (int, api.Errno) = assign.Total
	var _ func(units, places []api.Cell, m []int) bool = assign.Stable
	// Layer 19.
	var _ func(w *grid.World, p *parts.Parts, s api.Shape, from, want api.Cell, taken []api.Rect) (api.Cell, api.Errno) = settle.Nearest
	var _ func(w *grid.World, p *parts.Parts, s api.Shape, from, c api.Cell, taken []api.Rect) bool = settle.Will
	// Layer 20.
	var _ func(w *grid.World, l []api.Unit, at api.Cell, of func(s api.Shape) *parts.Parts) ([]api.Target, api.Errno) = order.Plan
	// Layer 21.
	var _ func(u api.Unit) api.Errno = unit.Check
	var _ func(u api.Unit) api.Unit = unit.Stop
	var _ func(u api.Unit, goal api.Cell) api.Unit = unit.Aim
	var _ func(u api.Unit, path []api.Cell) (api.Unit, api.Errno) = unit.Give
	var _ func(u api.Unit) (api.Cell, bool) = unit.Next
	var _ func(u api.Unit) (api.Unit, api.Errno) = unit.Step
	var _ func(u api.Unit) (api.Unit, api.Errno) = unit.Hold
	var _ func(u api.Unit, to api.Cell) (api.Unit, api.Errno) = unit.Aside
	var _ func(u api.Unit) (api.Unit, api.Errno) = unit.Lose
	// Layer 22.
	var _ func(x *occupy.Index) *reserve.Table = reserve.New
	var _ func(x *reserve.Table, id int, to api.Cell) api.Errno = (*reserve.Table).May
	var _ func(x *reserve.Table, id int, to api.Cell) api.Errno = (*reserve.Table).Claim
	var _ func(x *reserve.Table) int = (*reserve.Table).Len
	var _ func(x *reserve.Table) iter.Seq2[int, api.Cell] = (*reserve.Table).All
	var _ func(x *reserve.Table) int = (*reserve.Table).Apply
	// Layer 23.
	var _ func(w *grid.World, t *reserve.Table, u api.Unit) api.Choice = decide.Choose
	var _ func(w *grid.World, t *reserve.Table, u api.Unit) (api.Unit, api.Choice) = decide.Act
	// Layer 24.
	var _ func(c api.Command) api.Errno = command.Check
	var _ func(c api.Command) ([]byte, api.Errno) = command.Encode
	var _ func(b []byte) (api.Command, api.Errno) = command.Decode
	var _ func(c api.Command) api.Key = command.Key
	var _ func(a, b api.Key) bool = command.Less
	var _ func(l []api.Command) ([]byte, api.Errno) = command.Batch
	var _ func(b []byte) ([]api.Command, api.Errno) = command.Unbatch
	var _ func(a, b api.Command) bool = command.Same
	// Layer 25.
	var _ func(s api.State) api.Errno = sim.Check
	var _ func(s api.State) (*sim.Sim, api.Errno) = sim.New
	var _ func(x *sim.Sim, l []api.Command) ([]api.Reject, bool) = (*sim.Sim).Tick
	var _ func(x *sim.Sim) int = (*sim.Sim).Now
	var _ func(x *sim.Sim) api.State = (*sim.Sim).State
	var _ func(x *sim.Sim, id int) (api.Unit, bool) = (*sim.Sim).Unit
	var _ func(x *sim.Sim, c api.Cell) (int, bool) = (*sim.Sim).At
	var _ func(x *sim.Sim) *sim.Sim = (*sim.Sim).Copy
	var _ func(a, b api.State) bool = sim.Same
	// Layer 26.
	var _ func(s api.State) ([]byte, api.Errno) = codec.Encode
	var _ func(b []byte) (api.State, api.Errno) = codec.Decode
	// Layer 27.
	var _ func() *digest.Hash = digest.New
	var _ func(x *digest.Hash, b []byte) = (*digest.Hash).Write
	var _ func(x *digest.Hash) [32]byte = (*digest.Hash).Sum
	var _ func(x *digest.Hash) int = (*digest.Hash).Len
	var _ func(b []byte) [32]byte = digest.Of
	var _ func(s api.State) ([32]byte, api.Errno) = digest.State
	var _ func(d [32]byte) string = digest.Text
	// Layer 28.
	var _ func(first int) *log.Log = log.New
	var _ func(x *log.Log, c api.Command) api.Errno = (*log.Log).Add
	var _ func(x *log.Log, tick int) []api.Command = (*log.Log).At
	var _ func(x *log.Log, tick int) iter.Seq[api.Command] = (*log.Log).From
	var _ func(x *log.Log) int = (*log.Log).First
	var _ func(x *log.Log, before int) int = (*log.Log).Drop
	var _ func(x *log.Log) int = (*log.Log).Len
	// Layer 29.
	var _ func(s api.State, every, ring int) (*session.Session, api.Errno) = session.New
	var _ func(x *session.Session, c api.Command) (int, api.Errno) = (*session.Session).Add
	var _ func(x *session.Session) ([]api.Reject, bool) = (*session.Session).Tick
	var _ func(x *session.Session) int = (*session.Session).Now
	var _ func(x *session.Session) int = (*session.Session).First
	var _ func(x *session.Session) api.State = (*session.Session).State
	var _ func(x *session.Session) [32]byte = (*session.Session).Hash
	var _ func(x *session.Session, tick int) api.Errno = (*session.Session).Restore
	var _ func(x *session.Session) iter.Seq[int] = (*session.Session).Ticks
	var _ func(x *session.Session) ([]byte, api.Errno) = (*session.Session).Save
	var _ func(b []byte, every, ring int) (*session.Session, api.Errno) = session.Load
	var _ func(a, b api.State) api.Report = session.Compare
	// Layer 30.
	var _ func() *console.Console = console.New
	var _ func(x *console.Console, s string) string = (*console.Console).Line
	var _ func(x *console.Console) *session.Session = (*console.Console).Session
	var _ func(s string) string = console.Run
}

func TestLimits(t *testing.T) {
	for _, c := range []struct {
		name      string
		got, want int64
	}{
		{"MaxSide", api.MaxSide, 128}, {"Side", api.Side, 8}, {"MaxSize", api.MaxSize, 4}, {"MaxUnits", api.MaxUnits, 256},
		{"MaxGroup", api.MaxGroup, 64}, {"MaxBuild", api.MaxBuild, 256}, {"MaxFoot", api.MaxFoot, 8}, {"MaxPlayers", api.MaxPlayers, 8},
		{"MaxLog", api.MaxLog, 4096}, {"MaxRing", api.MaxRing, 64}, {"MaxTick", api.MaxTick, 1<<31 - 1}, {"MaxBytes", api.MaxBytes, 1 << 20},
		{"MaxCache", api.MaxCache, 256}, {"MaxPath", api.MaxPath, 16384}, {"MaxWait", api.MaxWait, 15}, {"Patience", api.Patience, 3},
		{"Reach", api.Reach, 32}, {"Straight", api.Straight, 10}, {"Diagonal", api.Diagonal, 14}, {"Far", api.Far, 1 << 20}, {"One", api.One, 1 << 32},
	} {
		if c.got != c.want {
			t.Errorf("%s = %d, want %d", c.name, c.got, c.want)
		}
	}
}

func TestErrors(t *testing.T) {
	for want, got := range []api.Errno{
		api.OK, api.ErrArg, api.ErrFull, api.ErrLong, api.ErrNone, api.ErrText, api.ErrBusy, api.ErrLate, api.ErrSame,
	} {
		if int(got) != want {
			t.Errorf("an error is %d, want %d", got, want)
		}
	}
}
