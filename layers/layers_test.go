// Package layers_test holds each layer's calls against their signatures in the document: it does not compile if one is missing or unlike.
package layers_test

import (
	"testing"

	"weighbridge/action"
	"weighbridge/adjust"
	"weighbridge/api"
	"weighbridge/audit"
	"weighbridge/bitrow"
	"weighbridge/bucket"
	"weighbridge/build"
	"weighbridge/colons"
	"weighbridge/colour"
	"weighbridge/confbytes"
	"weighbridge/config"
	"weighbridge/conftext"
	"weighbridge/curve"
	"weighbridge/direct"
	"weighbridge/dotted"
	"weighbridge/double"
	"weighbridge/edges"
	"weighbridge/extwalk"
	"weighbridge/fourhead"
	"weighbridge/meter"
	"weighbridge/octet"
	"weighbridge/onesum"
	"weighbridge/outlook"
	"weighbridge/packet"
	"weighbridge/pipe"
	"weighbridge/point"
	"weighbridge/ports"
	"weighbridge/prefix"
	"weighbridge/ratchet"
	"weighbridge/remark"
	"weighbridge/rule"
	"weighbridge/runner"
	"weighbridge/script"
	"weighbridge/shadow"
	"weighbridge/sieve"
	"weighbridge/single"
	"weighbridge/sixhead"
	"weighbridge/span"
	"weighbridge/tally"
	"weighbridge/trie"
	"weighbridge/wide"
)

func TestOctet(*testing.T) {
	var _ func(b []byte, at, width int) (uint64, api.Errno) = octet.Get
	var _ func(b []byte, at, width int, n uint64) ([]byte, api.Errno) = octet.Put
	var _ func(b []byte, at, n int) ([]byte, api.Errno) = octet.Cut
	var _ func(n uint64, from, count int) uint64 = octet.Bits
	var _ func(n uint64, from, count int, x uint64) uint64 = octet.SetBits
	var _ func(b []byte) string = octet.Hex
	var _ func(s string) ([]byte, api.Fault) = octet.Unhex
}

func TestWide(*testing.T) {
	var _ func(n uint64) api.Wide = wide.Of
	var _ func(a, b api.Wide) bool = wide.Less
	var _ func(a, b api.Wide) (api.Wide, bool) = wide.Add
	var _ func(a, b api.Wide) (api.Wide, bool) = wide.Sub
	var _ func(a, b uint64) api.Wide = wide.Mul
	var _ func(a api.Wide, n uint64) (api.Wide, uint64) = wide.Div
	var _ func(a api.Wide, most uint64) uint64 = wide.Cap
	var _ func(a api.Wide) string = wide.Text
}

func TestOnesum(*testing.T) {
	var _ func(a, b uint16) uint16 = onesum.Add
	var _ func(b []byte) uint16 = onesum.Sum
	var _ func(b []byte) uint16 = onesum.Check
	var _ func(b []byte) bool = onesum.Good
	var _ func(w uint16) uint16 = onesum.Swap
	var _ func(a uint16, n int, b uint16) uint16 = onesum.Join
	var _ func(b []byte, at int) ([]byte, api.Errno) = onesum.Fill
}

func TestAdjust(*testing.T) {
	var _ func(check uint16) uint16 = adjust.Clean
	var _ func(check, old, now uint16) uint16 = adjust.Word
	var _ func(check uint16, old, now []uint16) (uint16, api.Errno) = adjust.Words
	var _ func(b []byte, field, at int, w uint16) ([]byte, api.Errno) = adjust.At
}

func TestDotted(*testing.T) {
	var _ func(a [4]byte) string = dotted.Print
	var _ func(s string) ([4]byte, api.Errno) = dotted.Parse
	var _ func(a [4]byte) uint32 = dotted.Num
	var _ func(n uint32) [4]byte = dotted.Of
	var _ func(a [4]byte) ([4]byte, bool) = dotted.Next
	var _ func(a [4]byte) string = dotted.Sort
}

func TestColons(*testing.T) {
	var _ func(a [16]byte) string = colons.Print
	var _ func(s string) ([16]byte, api.Errno) = colons.Parse
	var _ func(a [16]byte, i int) uint16 = colons.Group
	var _ func(a [4]byte) [16]byte = colons.Map
	var _ func(a [16]byte) ([4]byte, bool) = colons.Unmap
	var _ func(a [16]byte) string = colons.Sort
}

func TestPrefix(*testing.T) {
	var _ func(p api.Prefix) api.Errno = prefix.Check
	var _ func(v int, a [16]byte, n int) (api.Prefix, api.Errno) = prefix.Make
	var _ func(v int) api.Prefix = prefix.All
	var _ func(p api.Prefix, v int, a [16]byte) bool = prefix.Has
	var _ func(a, b api.Prefix) bool = prefix.Within
	var _ func(a, b api.Prefix) bool = prefix.Meet
	var _ func(p api.Prefix) [16]byte = prefix.Last
	var _ func(p api.Prefix) (api.Prefix, api.Prefix, bool) = prefix.Halves
	var _ func(p api.Prefix) string = prefix.Print
	var _ func(s string) (api.Prefix, api.Errno) = prefix.Parse
	var _ func(v int, lo, hi [16]byte) ([]api.Prefix, api.Errno) = prefix.Cover
	var _ func(l []api.Prefix) ([]api.Prefix, api.Errno) = prefix.Merge
}

func TestSpan(*testing.T) {
	var _ func(s api.Span) api.Errno = span.Check
	var _ func() api.Span = span.All
	var _ func(s api.Span, n int) bool = span.Has
	var _ func(a, b api.Span) (api.Span, bool) = span.Meet
	var _ func(l []api.Span) ([]api.Span, api.Errno) = span.Union
	var _ func(l []api.Span) ([]int, api.Errno) = span.Starts
	var _ func(s api.Span) string = span.Print
	var _ func(s string) (api.Span, api.Errno) = span.Parse
	var _ func(l []api.Span) ([]api.Span, api.Errno) = span.Rest
}

func TestPoint(*testing.T) {
	var _ func(b byte) (int, int) = point.Split
	var _ func(d, ecn int) (byte, api.Errno) = point.Join
	var _ func(class, prec int) (int, api.Errno) = point.Af
	var _ func(d int) string = point.Sort
	var _ func(d int) int = point.Prec
	var _ func(d int) string = point.Name
	var _ func(s string) (int, api.Errno) = point.Parse
}

func TestFourhead(*testing.T) {
	var _ func(b []byte) (api.Four, api.Defect) = fourhead.Read
	var _ func(b []byte) ([]api.Ext, bool) = fourhead.Options
	var _ func(b []byte) []api.Defect = fourhead.All
	var _ func(f api.Four, options []byte) ([]byte, api.Errno) = fourhead.Write
	var _ func(b []byte) ([]byte, api.Errno) = fourhead.Seal
}

func TestExtwalk(*testing.T) {
	var _ func(kind int) bool = extwalk.Is
	var _ func(kind int, b []byte) (int, bool) = extwalk.Size
	var _ func(kind int, b []byte) (api.Walk, []api.Defect) = extwalk.Go
	var _ func(kind int, b []byte) []api.Ext = extwalk.List
	var _ func(l []api.Ext, proto int) ([]byte, api.Fault) = extwalk.Write
}

func TestSixhead(*testing.T) {
	var _ func(b []byte) (api.Six, api.Defect) = sixhead.Read
	var _ func(b []byte) ([]byte, bool) = sixhead.Rest
	var _ func(b []byte) []api.Defect = sixhead.All
	var _ func(s api.Six) ([]byte, api.Errno) = sixhead.Write
}

func TestPorts(*testing.T) {
	var _ func(proto int) int = ports.Least
	var _ func(proto int, b []byte, first bool) (int, int, api.Defect) = ports.Read
	var _ func(proto, src, dst int, data []byte) ([]byte, api.Errno) = ports.Write
	var _ func(k api.Key, b []byte) (uint16, api.Errno) = ports.Sum
	var _ func(k api.Key, b []byte) ([]byte, api.Errno) = ports.Seal
}

func TestPacket(*testing.T) {
	var _ func(b []byte) []api.Defect = packet.All
	var _ func(b []byte) (api.Head, api.Defect) = packet.Parse
	var _ func(b []byte) (int, int, bool) = packet.Point
	var _ func(b []byte) (api.Key, api.Defect) = packet.Key
	var _ func(d api.Defect) string = packet.Name
	var _ func(b []byte) string = packet.Tell
}

func TestBuild(*testing.T) {
	var _ func(p api.Plan) api.Errno = build.Check
	var _ func(p api.Plan) ([]byte, api.Errno) = build.Build
	var _ func(p api.Plan) int = build.Size
}

func TestRemark(*testing.T) {
	var _ func(b []byte, dscp int) ([]byte, api.Defect, api.Errno) = remark.Mark
	var _ func(a, b []byte) int = remark.Unlike
}

func TestRule(*testing.T) {
	var _ func(v, class int) api.Rule = rule.Any
	var _ func(r api.Rule) api.Errno = rule.Check
	var _ func(r api.Rule, k api.Key) bool = rule.Matches
	var _ func(r api.Rule) string = rule.Print
	var _ func(s string) (api.Rule, api.Fault) = rule.Parse
}

func TestBitrow(*testing.T) {
	var _ func(n int) []uint64 = bitrow.New
	var _ func(n int) []uint64 = bitrow.All
	var _ func(row []uint64, i int) []uint64 = bitrow.Set
	var _ func(row []uint64, i int) bool = bitrow.Has
	var _ func(rows ...[]uint64) []uint64 = bitrow.And
	var _ func(rows ...[]uint64) []uint64 = bitrow.Or
	var _ func(row []uint64) int = bitrow.First
	var _ func(row []uint64) int = bitrow.Count
	var _ func(row []uint64) []int = bitrow.List
	var _ func(row []uint64, n int) string = bitrow.Text
	var _ func(s string) ([]uint64, api.Fault) = bitrow.Parse
}

func TestTrie(*testing.T) {
	var _ func(l []api.Prefix) (*trie.Trie, api.Fault) = trie.New
	var _ func(t *trie.Trie) int = (*trie.Trie).Len
	var _ func(t *trie.Trie, v int, a [16]byte) []uint64 = (*trie.Trie).Find
	var _ func(t *trie.Trie, v int, a [16]byte) int = (*trie.Trie).Longest
	var _ func(t *trie.Trie) int = (*trie.Trie).Nodes
}

func TestEdges(*testing.T) {
	var _ func(l []api.Span) (*edges.Table, api.Fault) = edges.New
	var _ func(t *edges.Table, n int) []uint64 = (*edges.Table).Find
	var _ func(t *edges.Table) []uint64 = (*edges.Table).All
	var _ func(t *edges.Table) int = (*edges.Table).Pieces
	var _ func(t *edges.Table, n int) (api.Span, bool) = (*edges.Table).Piece
}

func TestDirect(*testing.T) {
	var _ func(l []int, most int) (*direct.Table, api.Fault) = direct.New
	var _ func(t *direct.Table, n int) []uint64 = (*direct.Table).Find
	var _ func(t *direct.Table) int = (*direct.Table).Most
	var _ func(t *direct.Table) int = (*direct.Table).Free
}

func TestSieve(*testing.T) {
	var _ func(l []api.Rule) (*sieve.Sieve, api.Fault) = sieve.New
	var _ func(s *sieve.Sieve) int = (*sieve.Sieve).Len
	var _ func(s *sieve.Sieve, k api.Key) [6][]uint64 = (*sieve.Sieve).Rows
	var _ func(s *sieve.Sieve, k api.Key) []uint64 = (*sieve.Sieve).Find
	var _ func(s *sieve.Sieve, k api.Key) int = (*sieve.Sieve).First
	var _ func(s *sieve.Sieve, k api.Key, other int) int = (*sieve.Sieve).Class
}

func TestShadow(*testing.T) {
	var _ func(a, b api.Rule) bool = shadow.Covers
	var _ func(a, b api.Rule) bool = shadow.Meets
	var _ func(a, b api.Rule) (api.Key, bool) = shadow.Witness
	var _ func(r api.Rule) bool = shadow.Dead
	var _ func(l []api.Rule) ([]api.Note, api.Fault) = shadow.Lint
	var _ func(l []api.Rule) ([]api.Rule, api.Fault) = shadow.Prune
	var _ func(r api.Rule, k api.Key) int = shadow.Why
}

func TestBucket(*testing.T) {
	var _ func(burst uint64) (uint64, api.Errno) = bucket.Full
	var _ func(level, rim, rate, dt uint64) (uint64, api.Wide) = bucket.Grow
	var _ func(size int) (uint64, bool) = bucket.Need
	var _ func(level uint64, size int) (uint64, bool) = bucket.Take
	var _ func(level, rim, rate uint64, size int) (uint64, bool) = bucket.Wait
}

func TestRatchet(*testing.T) {
	var _ func(last uint64, seen bool, t uint64) (uint64, uint64) = ratchet.Step
	var _ func(l []uint64) []uint64 = ratchet.Run
	var _ func(l []uint64) []int = ratchet.Back
	var _ func(l []uint64) (uint64, int) = ratchet.Longest
}

func TestSingle(*testing.T) {
	var _ func(m api.Meter) api.Errno = single.Check
	var _ func(m api.Meter) (api.Level, api.Errno) = single.New
	var _ func(m api.Meter, s api.Level, t uint64, size, pre int) (api.Level, int) = single.Step
}

func TestDouble(*testing.T) {
	var _ func(m api.Meter) api.Errno = double.Check
	var _ func(m api.Meter) (api.Level, api.Errno) = double.New
	var _ func(m api.Meter, s api.Level, t uint64, size, pre int) (api.Level, int) = double.Step
}

func TestMeter(*testing.T) {
	var _ func(m api.Meter) api.Errno = meter.Check
	var _ func(m api.Meter) (api.Level, api.Errno) = meter.New
	var _ func(m api.Meter, s api.Level, t uint64, size, pre int) (api.Level, int) = meter.Step
	var _ func(m api.Meter, l []api.Sample, pre []int) ([]int, api.Level) = meter.Run
	var _ func(m api.Meter) string = meter.Print
	var _ func(s string) (api.Meter, api.Fault) = meter.Parse
}

func TestCurve(*testing.T) {
	var _ func(l []api.Sample) (int, api.Fault) = curve.Total
	var _ func(l []api.Sample, colours []int, worst int) []api.Sample = curve.Only
	var _ func(l []api.Sample, rate, burst uint64) (int, int, api.Fault) = curve.Breaks
	var _ func(l []api.Sample, rate uint64) (uint64, api.Fault) = curve.Least
	var _ func(l []api.Sample, window uint64) (int, api.Fault) = curve.Peak
}

func TestOutlook(*testing.T) {
	var _ func(m api.Meter, s api.Level, size, want int) (uint64, bool) = outlook.When
	var _ func(m api.Meter, sizes []int, want int) ([]uint64, api.Fault) = outlook.Pace
	var _ func(m api.Meter, s api.Level) (uint64, bool) = outlook.Idle
}

func TestColour(*testing.T) {
	var _ func(l []int) api.Fault = colour.Check
	var _ func(l []int, d int) (int, bool) = colour.Of
	var _ func() []int = colour.Standard
	var _ func(l ...int) int = colour.Worst
	var _ func(c int) string = colour.Name
	var _ func(s string) (int, api.Errno) = colour.Parse
	var _ func(l []int) string = colour.Print
	var _ func(s string) ([]int, api.Fault) = colour.ParseAll
}

func TestAction(*testing.T) {
	var _ func(l [][]api.Act, classes int) api.Fault = action.Check
	var _ func(l [][]api.Act, class, colour int) (api.Act, bool) = action.Of
	var _ func(l [][]api.Act, pre []int) (int, int, bool) = action.Promotes
	var _ func(l [][]api.Act, classes, points []int) (int, bool) = action.Worst
	var _ func(l [][]api.Act) []int = action.Points
	var _ func(a api.Act) string = action.Print
	var _ func(s string) (api.Act, api.Errno) = action.Parse
}

func TestTally(*testing.T) {
	var _ func(classes int) (*tally.Tally, api.Errno) = tally.New
	var _ func(c api.Count) (*tally.Tally, api.Errno) = tally.From
	var _ func(t *tally.Tally, class, colour, size int) api.Errno = (*tally.Tally).Add
	var _ func(t *tally.Tally, d api.Defect, size int) api.Errno = (*tally.Tally).Bad
	var _ func(t *tally.Tally) api.Count = (*tally.Tally).Read
	var _ func(a, b api.Count) (api.Count, api.Errno) = tally.Diff
	var _ func(c api.Count) bool = tally.Balanced
}

func TestConfig(*testing.T) {
	var _ func(c api.Config) api.Fault = config.Check
	var _ func() api.Config = config.Plain
	var _ func(c api.Config) api.Config = config.Clone
	var _ func(a, b api.Config) bool = config.Same
	var _ func(c api.Config, meter int) []int = config.Bound
	var _ func(a, b api.Config) []api.Note = config.Diff
}

func TestConftext(*testing.T) {
	var _ func(c api.Config) string = conftext.Print
	var _ func(s string) (api.Config, api.Fault) = conftext.Parse
	var _ func(s string) ([]string, api.Fault) = conftext.Lines
}

func TestConfbytes(*testing.T) {
	var _ func(c api.Config) ([]byte, api.Fault) = confbytes.Encode
	var _ func(b []byte) (api.Config, api.Fault) = confbytes.Decode
	var _ func(c api.Config) int = confbytes.Size
}

func TestPipe(*testing.T) {
	var _ func(c api.Config) (*pipe.Pipe, api.Fault) = pipe.New
	var _ func(p *pipe.Pipe, t uint64, b []byte) api.Answer = (*pipe.Pipe).Packet
	var _ func(p *pipe.Pipe) api.Answer = (*pipe.Pipe).Read
	var _ func(p *pipe.Pipe, b []byte) (int, api.Defect) = (*pipe.Pipe).Class
	var _ func(p *pipe.Pipe, meter int) (api.Level, bool) = (*pipe.Pipe).Level
	var _ func(p *pipe.Pipe, t uint64, b []byte) api.Answer = (*pipe.Pipe).Try
}

func TestScript(*testing.T) {
	var _ func(l []api.Op) (string, api.Fault) = script.Print
	var _ func(s string) ([]api.Op, api.Fault) = script.Parse
	var _ func(a api.Answer) string = script.Tell
	var _ func(l []api.Answer) string = script.TellAll
	var _ func(s string) (api.Answer, api.Errno) = script.ParseAnswer
	var _ func(s string) ([]api.Answer, api.Fault) = script.ParseAnswers
}

func TestRunner(*testing.T) {
	var _ func(c api.Config, l []api.Op) ([]api.Answer, api.Fault) = runner.Run
	var _ func(conf, ops string) (string, int, api.Fault) = runner.Text
	var _ func(c api.Config, l []api.Op, meter int) ([]int, api.Fault) = runner.Places
	var _ func(c api.Config, l []api.Op, meter int) ([]api.Sample, api.Fault) = runner.Samples
}

func TestAudit(*testing.T) {
	var _ func(c api.Config, l []api.Op, a []api.Answer) api.Fault = audit.Shape
	var _ func(c api.Config, l []api.Op, a []api.Answer) api.Fault = audit.Counts
	var _ func(c api.Config, l []api.Op, a []api.Answer) api.Fault = audit.Curves
	var _ func(c api.Config, l []api.Op, a []api.Answer) api.Fault = audit.All
	var _ func(c api.Config, l []api.Op, a []api.Answer, meter int) ([3]int, api.Fault) = audit.Sums
	var _ func(c api.Config, l []api.Op, a []api.Answer) (string, api.Fault) = audit.Report
	var _ func(conf, ops, answers string) (int, api.Fault) = audit.Text
}
