package packet_test

import (
	"bytes"
	"encoding/binary"
	"encoding/hex"
	"hash/crc32"
	"math"
	"math/rand"
	"reflect"
	"slices"
	"strings"
	"testing"

	"hauberk/api"
	"hauberk/packet"
	"hauberk/parcel"
)

const most = 1<<53 - 1

func ring(seq, rep int) api.RingId { return api.RingId{Seq: seq, Rep: rep} }

func bytesOf(t testing.TB, s string) []byte {
	t.Helper()
	b, err := hex.DecodeString(strings.ReplaceAll(s, " ", ""))
	if err != nil {
		t.Fatal(err)
	}
	return b
}

func filled(count int) []byte { return bytes.Repeat([]byte{0xA5}, count) }

// copyOf answers p in memory of its own.
func copyOf(p api.Packet) api.Packet {
	p.Data.Message.Body = bytes.Clone(p.Data.Message.Body)
	p.Token.Ask = slices.Clone(p.Token.Ask)
	p.Commit.Entries = slices.Clone(p.Commit.Entries)
	return p
}

// with answers p as change leaves it.
func with(p api.Packet, change func(p *api.Packet)) api.Packet {
	p = copyOf(p)
	change(&p)
	return p
}

// asNumbers and the functions below tell the bytes by the library and the words of the chapters, by nothing of the program.
func asNumbers(l ...int) []byte {
	var b []byte
	for _, v := range l {
		b = binary.AppendUvarint(b, uint64(v))
	}
	return b
}

func asOctets(b []byte) []byte { return append(asNumbers(len(b)), b...) }

func sealed(b []byte) []byte {
	return binary.BigEndian.AppendUint32(bytes.Clone(b), crc32.ChecksumIEEE(b))
}

func messageNumbers(m api.Message) []int {
	safe := 0
	if m.Safe {
		safe = 1
	}
	return []int{m.Kind, m.Origin, m.Life, m.Id, m.Part, m.Parts, m.Groups, safe, m.From.Stamp, m.From.Ring.Seq, m.From.Ring.Rep, m.From.Seq}
}

func messageBytes(m api.Message) []byte {
	return append(asNumbers(messageNumbers(m)...), asOctets(m.Body)...)
}

// numbersOf answers the numbers of p, those of data up to the message.
func numbersOf(p api.Packet) []int {
	d, t, c := p.Data, p.Token, p.Commit
	l := []int{p.Kind, p.To}
	switch p.Kind {
	case api.PacketData:
		l = append(l, d.Ring.Seq, d.Ring.Rep, d.Seq, d.Sender, d.Stamp)
	case api.PacketToken:
		l = append(l, t.Ring.Seq, t.Ring.Rep, t.Hop, t.Seq, t.Aru, t.Low, t.Stamp, t.Idle, len(t.Ask))
		l = append(l, t.Ask...)
	case api.PacketJoin:
		l = append(l, p.Join.Sender, p.Join.Proc, p.Join.Counter)
	case api.PacketCommit:
		l = append(l, c.Ring.Seq, c.Ring.Rep, c.Members, c.Hop, len(c.Entries))
		for _, x := range c.Entries {
			l = append(l, x.Node, x.Old.Seq, x.Old.Rep, x.Aru, x.High, x.Clock)
		}
	case api.PacketBeacon:
		l = append(l, p.Beacon.Ring.Seq, p.Beacon.Ring.Rep, p.Beacon.Sender)
	}
	return l
}

// open answers the bytes of p ahead of their check.
func open(p api.Packet) []byte {
	b := asNumbers(numbersOf(p)...)
	if p.Kind == api.PacketData {
		b = append(b, asOctets(messageBytes(p.Data.Message))...)
	}
	return b
}

func written(p api.Packet) []byte { return sealed(open(p)) }

// same holds packets against each other; a list without elements may be nil or not.
func same(a, b api.Packet) bool {
	if !bytes.Equal(a.Data.Message.Body, b.Data.Message.Body) || !slices.Equal(a.Token.Ask, b.Token.Ask) || !slices.Equal(a.Commit.Entries, b.Commit.Entries) {
		return false
	}
	return reflect.DeepEqual(withoutLists(a), withoutLists(b))
}

func withoutLists(p api.Packet) api.Packet {
	p.Data.Message.Body, p.Token.Ask, p.Commit.Entries = nil, nil, nil
	return p
}

func isNone(p api.Packet) bool { return reflect.DeepEqual(p, api.Packet{}) }

// membersOf answers the nodes of a crew, by rising numbers.
func membersOf(crew int) []int {
	var l []int
	for n := 1; n <= 8; n++ {
		if crew&(1<<n) != 0 {
			l = append(l, n)
		}
	}
	return l
}

// mayBe is the chapter's words once more, told from the other side: what p may not have.
func mayBe(p api.Packet) bool {
	rest := copyOf(p)
	well := false
	switch p.Kind {
	case 1:
		rest.Data = api.Data{}
		well = p.To == 0 && mayBeData(p.Data)
	case 2:
		rest.Token = api.Token{}
		well = p.To >= 1 && p.To <= 8 && mayBeToken(p.Token)
	case 3:
		rest.Join = api.Join{}
		j := p.Join
		well = p.To == 0 && slices.Contains(membersOf(j.Proc), j.Sender) && j.Proc >= 0 && j.Proc <= 510 && j.Proc%2 == 0 && j.Counter >= 0 && j.Counter <= most
	case 4:
		rest.Commit = api.Commit{}
		well = mayBeCommit(p.Commit) && membersOf(p.Commit.Members)[p.Commit.Hop%len(membersOf(p.Commit.Members))] == p.To
	case 5:
		rest.Beacon = api.Beacon{}
		well = p.To == 0 && mayBeRing(p.Beacon.Ring) && p.Beacon.Sender >= 1 && p.Beacon.Sender <= 8
	}
	rest.Kind, rest.To = 0, 0
	return well && same(rest, api.Packet{})
}

func mayBeRing(r api.RingId) bool { return r.Seq >= 1 && r.Seq <= most && r.Rep >= 1 && r.Rep <= 8 }

func mayBeData(d api.Data) bool {
	return mayBeRing(d.Ring) && d.Seq >= 1 && d.Seq <= most && d.Sender >= 1 && d.Sender <= 8 && !isWithout(d.Stamp) && parcel.Check(d.Message) == api.OK
}

func mayBeToken(t api.Token) bool {
	if !mayBeRing(t.Ring) || t.Hop == 0 || t.Aru > t.Seq || t.Low > 8 || len(t.Ask) > 16 || slices.ContainsFunc([]int{t.Hop, t.Seq, t.Aru, t.Low, t.Stamp, t.Idle}, isWithout) {
		return false
	}
	last := 0
	for _, v := range t.Ask {
		if v <= last || v > t.Seq {
			return false
		}
		last = v
	}
	return true
}

func mayBeCommit(c api.Commit) bool {
	l := membersOf(c.Members)
	if c.Members < 2 || c.Members > 510 || c.Members%2 != 0 || !mayBeRing(c.Ring) || c.Ring.Rep != l[0] || c.Hop < 1 || c.Hop > 2*len(l) {
		return false
	}
	if c.Hop < len(l) {
		l = l[:c.Hop]
	}
	if len(l) != len(c.Entries) {
		return false
	}
	for i, n := range l {
		x := c.Entries[i]
		if x.Node != n || !mayBeRing(x.Old) || x.Aru > x.High || slices.ContainsFunc([]int{x.Aru, x.High, x.Clock}, isWithout) {
			return false
		}
	}
	return true
}

// without answers numbers that cannot be written.
func without() []int { return []int{-1, math.MinInt, most + 1, math.MaxInt} }

func isWithout(v int) bool { return v < 0 || v > most }

// canWrite tells whether the numbers of p can be written.
func canWrite(p api.Packet) bool {
	return !slices.ContainsFunc(append(numbersOf(p), messageNumbers(p.Data.Message)...), isWithout)
}

func text() api.Message {
	return api.Message{Kind: api.MsgText, Origin: 1, Life: 9, Id: 2, Parts: 1, Groups: 130, Safe: true, Body: []byte{0x41}}
}

func marked() api.Message {
	return api.Message{Kind: api.MsgMark, Origin: 3, From: api.Key{Stamp: 5, Ring: ring(2, 1), Seq: 7}}
}

func want() api.Message { return api.Message{Kind: api.MsgWant, Origin: 8} }

func chart() api.Message {
	return api.Message{Kind: api.MsgChart, Origin: 4, From: api.Key{Stamp: 6, Ring: ring(1, 2)}, Body: asNumbers(2, 0, 3, 2, 6, 2, 1, 4, 16)}
}

func old(m api.Message) api.Message {
	return api.Message{Kind: api.MsgOld, Origin: 2, Id: 2, From: api.Key{Stamp: 77, Ring: ring(4, 1), Seq: 9}, Body: messageBytes(m)}
}

func longText() api.Message {
	return api.Message{Kind: api.MsgText, Origin: 8, Life: most, Id: most, Part: 4, Parts: 5, Groups: 255, Safe: true,
		From: api.Key{Stamp: most, Ring: ring(most, 8), Seq: most}, Body: filled(48)}
}

// longOld answers a message of as many bytes as there can be.
func longOld() api.Message {
	return api.Message{Kind: api.MsgOld, Origin: 8, Id: 8, From: api.Key{Stamp: most, Ring: ring(most, 8), Seq: most}, Body: messageBytes(longText())}
}

// messages answers messages of each kind.
func messages() []api.Message {
	return []api.Message{text(), marked(), want(), chart(), old(text()), old(marked()), old(want()), old(chart()), longText(), longOld(),
		{Kind: api.MsgText, Origin: 1, Life: 1, Parts: 1, Groups: 1}, {Kind: api.MsgMark, Origin: 1}, {Kind: api.MsgChart, Origin: 1, Body: []byte{0}}}
}

func data(m api.Message) api.Packet {
	return api.Packet{Kind: api.PacketData, Data: api.Data{Ring: ring(4, 1), Seq: 9, Sender: 2, Stamp: 77, Message: m}}
}

func token(ask ...int) api.Packet {
	return api.Packet{Kind: api.PacketToken, To: 2, Token: api.Token{Ring: ring(4, 1), Hop: 7, Seq: 20, Aru: 8, Low: 3, Stamp: 21, Idle: 2, Ask: ask}}
}

func join() api.Packet {
	return api.Packet{Kind: api.PacketJoin, Join: api.Join{Sender: 2, Proc: 6, Counter: 300}}
}

func beacon() api.Packet {
	return api.Packet{Kind: api.PacketBeacon, Beacon: api.Beacon{Ring: ring(4, 1), Sender: 3}}
}

// commit answers one that may be, if Hop does.
func commit(crew, hop int) api.Packet {
	l := membersOf(crew)
	c := api.Commit{Ring: ring(300, l[0]), Members: crew, Hop: hop}
	for i, n := range l {
		if i < hop {
			c.Entries = append(c.Entries, api.Entry{Node: n, Old: ring(4+i, 9-n), Aru: 3 * i, High: 3*i + n, Clock: 200 * n})
		}
	}
	return api.Packet{Kind: api.PacketCommit, To: l[max(hop, 0)%len(l)], Commit: c}
}

// everyKind answers a packet of each kind.
func everyKind() []api.Packet {
	return []api.Packet{data(text()), token(9, 11), join(), commit(10, 3), beacon()}
}

// rising answers count numbers up to last.
func rising(count, last int) []int {
	l := make([]int, count)
	for i := range l {
		l[i] = last - count + 1 + i
	}
	return l
}

// longest answers packets of each kind whose bytes are as many as there can be.
func longest() []api.Packet {
	d := api.Data{Ring: ring(most, 8), Seq: most, Sender: 8, Stamp: most, Message: longOld()}
	t := api.Token{Ring: ring(most, 8), Hop: most, Seq: most, Aru: most, Low: 8, Stamp: most, Idle: most, Ask: rising(16, most)}
	c := commit(510, 16)
	c.Commit.Ring.Seq = most
	for i := range c.Commit.Entries {
		x := &c.Commit.Entries[i]
		x.Old, x.Aru, x.High, x.Clock = ring(most, 8), most, most, most
	}
	return []api.Packet{
		{Kind: api.PacketData, Data: d},
		{Kind: api.PacketToken, To: 8, Token: t},
		{Kind: api.PacketJoin, Join: api.Join{Sender: 8, Proc: 510, Counter: most}},
		c,
		{Kind: api.PacketBeacon, Beacon: api.Beacon{Ring: ring(most, 8), Sender: 8}},
	}
}

// edges answers numbers at which the bytes, or the limits, turn.
func edges() []int { return []int{0, 1, 127, 128, 1<<49 - 1, 1 << 49, most - 1, most} }

func goodRings() []api.RingId {
	return []api.RingId{ring(1, 1), ring(1, 8), ring(most, 1), ring(most, 8), ring(128, 4)}
}

func goodData() []api.Packet {
	var l []api.Packet
	for _, m := range messages() {
		l = append(l, data(m))
		for _, r := range goodRings() {
			l = append(l, with(data(m), func(p *api.Packet) { p.Data.Ring = r }))
		}
	}
	for node := 1; node <= 8; node++ {
		l = append(l, with(data(marked()), func(p *api.Packet) { p.Data.Sender = node }))
	}
	for _, v := range edges() {
		l = append(l, with(data(want()), func(p *api.Packet) { p.Data.Stamp = v }), with(data(text()), func(p *api.Packet) { p.Data.Seq = max(v, 1) }))
	}
	return append(l, with(data(text()), func(p *api.Packet) { p.Data.Message.Body = []byte{} }))
}

func goodTokens() []api.Packet {
	var l []api.Packet
	for _, ask := range [][]int{nil, {}, {1}, {20}, {9}, {1, 20}, {1, 2, 3}, {19, 20}, rising(16, 16), rising(16, 20), rising(15, 20)} {
		l = append(l, token(ask...))
		l = append(l, with(token(ask...), func(p *api.Packet) { p.Token.Aru = 20 }), with(token(ask...), func(p *api.Packet) { p.Token.Aru = 0 }))
	}
	change := func(f func(p *api.Packet)) {
		for _, ask := range [][]int{nil, {3}, rising(16, 20)} {
			l = append(l, with(token(ask...), f))
		}
	}
	for v := range 9 {
		change(func(p *api.Packet) { p.Token.Low = v })
		change(func(p *api.Packet) { p.To = max(v, 1) })
	}
	for _, v := range edges() {
		change(func(p *api.Packet) { p.Token.Hop = max(v, 1) })
		change(func(p *api.Packet) { p.Token.Stamp = v })
		change(func(p *api.Packet) { p.Token.Idle = v })
		change(func(p *api.Packet) { p.Token.Seq, p.Token.Aru, p.Token.Ask = v, v, nil })
		change(func(p *api.Packet) { p.Token.Seq, p.Token.Aru, p.Token.Ask = v, 0, nil })
		change(func(p *api.Packet) { p.Token.Seq, p.Token.Aru, p.Token.Ask = max(v, 1), 1, []int{max(v, 1)} })
	}
	for _, r := range goodRings() {
		change(func(p *api.Packet) { p.Token.Ring = r })
	}
	return append(l, with(token(), func(p *api.Packet) { p.Token.Seq, p.Token.Ask = most, rising(16, most) }))
}

func goodJoins() []api.Packet {
	var l []api.Packet
	for sender := 1; sender <= 8; sender++ {
		for _, proc := range []int{1 << sender, 510, 1<<sender | 2, 1<<sender | 256} {
			l = append(l, with(join(), func(p *api.Packet) { p.Join.Sender, p.Join.Proc = sender, proc }))
		}
	}
	for _, v := range edges() {
		l = append(l, with(join(), func(p *api.Packet) { p.Join.Counter = v }))
	}
	return append(l, join())
}

func goodCommits() []api.Packet {
	var l []api.Packet
	for _, crew := range []int{2, 4, 256, 6, 10, 258, 384, 42, 254, 508, 510} {
		for hop := 1; hop <= 2*len(membersOf(crew)); hop++ {
			l = append(l, commit(crew, hop))
		}
	}
	for _, p := range []api.Packet{commit(2, 1), commit(10, 1), commit(10, 4), commit(510, 16)} {
		for _, v := range edges() {
			at := len(p.Commit.Entries) - 1
			l = append(l, with(p, func(p *api.Packet) { p.Commit.Entries[at].Clock = v }))
			l = append(l, with(p, func(p *api.Packet) { p.Commit.Entries[at].Aru, p.Commit.Entries[at].High = v, v }))
			l = append(l, with(p, func(p *api.Packet) { p.Commit.Entries[at].Aru, p.Commit.Entries[at].High = 0, v }))
			l = append(l, with(p, func(p *api.Packet) { p.Commit.Ring.Seq = max(v, 1) }))
		}
		for _, r := range goodRings() {
			l = append(l, with(p, func(p *api.Packet) { p.Commit.Entries[0].Old = r }))
		}
	}
	return l
}

func goodBeacons() []api.Packet {
	var l []api.Packet
	for sender := 1; sender <= 8; sender++ {
		for _, r := range goodRings() {
			l = append(l, api.Packet{Kind: api.PacketBeacon, Beacon: api.Beacon{Ring: r, Sender: sender}})
		}
	}
	return append(l, beacon())
}

// good answers packets that may be.
func good() []api.Packet {
	l := slices.Concat(everyKind(), longest(), goodData(), goodTokens(), goodJoins(), goodCommits(), goodBeacons())
	for _, p := range everyKind() { // lists of other kinds, without elements
		l = append(l, with(p, func(p *api.Packet) {
			if p.Kind != api.PacketData {
				p.Data.Message.Body = []byte{}
			}
			if p.Kind != api.PacketToken {
				p.Token.Ask = []int{}
			}
			if p.Kind != api.PacketCommit {
				p.Commit.Entries = []api.Entry{}
			}
		}))
	}
	return l
}

// foreign answers changes each of which fills one field, by the kind that it is of.
func foreign() map[int][]func(p *api.Packet) {
	return map[int][]func(p *api.Packet){
		api.PacketData: {
			func(p *api.Packet) { p.Data.Ring.Seq = 1 },
			func(p *api.Packet) { p.Data.Ring.Rep = 1 },
			func(p *api.Packet) { p.Data.Seq = 1 },
			func(p *api.Packet) { p.Data.Sender = 1 },
			func(p *api.Packet) { p.Data.Stamp = -1 },
			func(p *api.Packet) { p.Data.Message.Kind = 1 },
			func(p *api.Packet) { p.Data.Message.Origin = 1 },
			func(p *api.Packet) { p.Data.Message.Life = 1 },
			func(p *api.Packet) { p.Data.Message.Id = 1 },
			func(p *api.Packet) { p.Data.Message.Part = 1 },
			func(p *api.Packet) { p.Data.Message.Parts = 1 },
			func(p *api.Packet) { p.Data.Message.Groups = 1 },
			func(p *api.Packet) { p.Data.Message.Safe = true },
			func(p *api.Packet) { p.Data.Message.From.Stamp = 1 },
			func(p *api.Packet) { p.Data.Message.From.Ring.Seq = 1 },
			func(p *api.Packet) { p.Data.Message.From.Ring.Rep = 1 },
			func(p *api.Packet) { p.Data.Message.From.Seq = math.MinInt },
			func(p *api.Packet) { p.Data.Message.Body = []byte{0} },
			func(p *api.Packet) { p.Data = data(text()).Data },
			func(p *api.Packet) { p.Data.Message = text() },
		},
		api.PacketToken: {
			func(p *api.Packet) { p.Token.Ring.Seq = 1 },
			func(p *api.Packet) { p.Token.Ring.Rep = 1 },
			func(p *api.Packet) { p.Token.Hop = 1 },
			func(p *api.Packet) { p.Token.Seq = 1 },
			func(p *api.Packet) { p.Token.Aru = 1 },
			func(p *api.Packet) { p.Token.Low = 1 },
			func(p *api.Packet) { p.Token.Stamp = 1 },
			func(p *api.Packet) { p.Token.Idle = -1 },
			func(p *api.Packet) { p.Token.Ask = []int{0} },
			func(p *api.Packet) { p.Token = token().Token },
		},
		api.PacketJoin: {
			func(p *api.Packet) { p.Join.Sender = 1 },
			func(p *api.Packet) { p.Join.Proc = 1 },
			func(p *api.Packet) { p.Join.Counter = 1 },
			func(p *api.Packet) { p.Join = join().Join },
		},
		api.PacketCommit: {
			func(p *api.Packet) { p.Commit.Ring.Seq = 1 },
			func(p *api.Packet) { p.Commit.Ring.Rep = 1 },
			func(p *api.Packet) { p.Commit.Members = 1 },
			func(p *api.Packet) { p.Commit.Hop = 1 },
			func(p *api.Packet) { p.Commit.Entries = []api.Entry{{}} },
			func(p *api.Packet) { p.Commit = commit(10, 3).Commit },
		},
		api.PacketBeacon: {
			func(p *api.Packet) { p.Beacon.Ring.Seq = 1 },
			func(p *api.Packet) { p.Beacon.Ring.Rep = 1 },
			func(p *api.Packet) { p.Beacon.Sender = 1 },
			func(p *api.Packet) { p.Beacon = beacon().Beacon },
		},
	}
}

// badForeign answers packets of all kinds, each with a field that is not of its kind.
func badForeign() []api.Packet {
	var l []api.Packet
	for _, p := range everyKind() {
		for kind := 1; kind <= 5; kind++ {
			for _, change := range foreign()[kind] {
				if kind != p.Kind {
					l = append(l, with(p, change))
				}
			}
		}
	}
	return l
}

func badRings() []api.RingId {
	l := []api.RingId{{}, ring(0, 1), ring(1, 0), ring(1, 9), ring(1, -1), ring(most, 16)}
	for _, v := range without() {
		l = append(l, ring(v, 1), ring(1, v))
	}
	return l
}

func badCrews() []int { return append(without(), 1, 3, 511, 512, 514, 1022, most, -2) }

func badData() []api.Packet {
	var l []api.Packet
	change := func(f func(p *api.Packet)) {
		for _, m := range []api.Message{text(), marked(), want(), chart(), old(text())} {
			l = append(l, with(data(m), f))
		}
	}
	for _, v := range append(without(), 1, 2, 8) {
		change(func(p *api.Packet) { p.To = v })
	}
	for _, r := range badRings() {
		change(func(p *api.Packet) { p.Data.Ring = r })
	}
	for _, v := range append(without(), 0) {
		change(func(p *api.Packet) { p.Data.Seq = v })
	}
	for _, v := range append(without(), 0, 9) {
		change(func(p *api.Packet) { p.Data.Sender = v })
		change(func(p *api.Packet) { p.Data.Message.Origin = v })
	}
	for _, v := range without() {
		change(func(p *api.Packet) { p.Data.Stamp = v })
		change(func(p *api.Packet) { p.Data.Message.Life = v })
	}
	for _, v := range append(without(), 0, 6) {
		change(func(p *api.Packet) { p.Data.Message.Kind = v })
	}
	change(func(p *api.Packet) { p.Data.Message.Body = filled(160) })
	change(func(p *api.Packet) { p.Data.Message = api.Message{} })
	change(func(p *api.Packet) { p.Data.Message = old(old(want())) })
	change(func(p *api.Packet) { p.Data = api.Data{} })
	change(func(p *api.Packet) { p.Data = api.Data{Message: p.Data.Message} })
	return l
}

// badLongBodies answers data whose message parcel refuses by ErrLimit, not by ErrArg.
func badLongBodies() []api.Packet {
	var l []api.Packet
	for _, m := range messages() {
		for _, size := range []int{161, 512, 600} {
			m.Body = filled(size)
			l = append(l, data(m))
		}
	}
	return l
}

func badTokens() []api.Packet {
	var l []api.Packet
	change := func(f func(p *api.Packet)) {
		for _, ask := range [][]int{nil, {3}, rising(16, 20)} {
			l = append(l, with(token(ask...), f))
		}
	}
	for _, v := range append(without(), 0, 9) {
		change(func(p *api.Packet) { p.To = v })
	}
	for _, r := range badRings() {
		change(func(p *api.Packet) { p.Token.Ring = r })
	}
	for _, v := range without() {
		change(func(p *api.Packet) { p.Token.Seq, p.Token.Aru, p.Token.Ask = v, 0, nil })
		change(func(p *api.Packet) { p.Token.Seq, p.Token.Aru, p.Token.Ask = v, v, nil })
		change(func(p *api.Packet) { p.Token.Seq = v })
		change(func(p *api.Packet) { p.Token.Stamp = v })
		change(func(p *api.Packet) { p.Token.Idle = v })
		change(func(p *api.Packet) { p.Token.Hop = v })
	}
	for _, v := range append(without(), 21, 22, most) {
		change(func(p *api.Packet) { p.Token.Aru = v })
	}
	for _, v := range append(without(), 9, 10, 16, most) {
		change(func(p *api.Packet) { p.Token.Low = v })
	}
	change(func(p *api.Packet) { p.Token.Hop = 0 })
	change(func(p *api.Packet) { p.Token.Seq, p.Token.Aru, p.Token.Ask = 0, 1, nil })
	change(func(p *api.Packet) { p.Token.Seq, p.Token.Aru, p.Token.Ask = 0, 0, []int{1} })
	change(func(p *api.Packet) { p.Token.Seq, p.Token.Aru, p.Token.Ask = 0, 0, []int{0} })
	change(func(p *api.Packet) { p.Token = api.Token{} })
	change(func(p *api.Packet) { p.Token = api.Token{Ask: p.Token.Ask} })
	return append(l, badAsks()...)
}

func badAsks() []api.Packet {
	var l []api.Packet
	for _, ask := range [][]int{
		{9, 9}, {9, 8}, {0}, {21}, {-1}, {most}, {math.MaxInt}, {math.MinInt}, {most + 1}, {0, 1}, {20, 21}, {1, 20, 21}, {1, 1}, {20, 20},
		{1, 3, 2}, {5, 1}, {1, 2, 3, 3}, {1, 2, 2, 3}, {2, 1, 3}, {math.MaxInt, math.MinInt}, {3, -3}, {3, 0, 4},
		append(rising(15, 15), 15), append(rising(15, 15), 1), append(rising(15, 19), 21), append([]int{0}, rising(15, 15)...),
	} {
		l = append(l, token(ask...))
	}
	return l
}

// badCounts answers packets with more in a list than there may be.
func badCounts() []api.Packet {
	var l []api.Packet
	for _, count := range []int{17, 18, 100, 128, 300} {
		l = append(l, with(token(), func(p *api.Packet) { p.Token.Seq, p.Token.Ask = 1000, rising(count, 500) }))
		l = append(l, with(token(), func(p *api.Packet) { p.Token.Ask = make([]int, count) }))
	}
	for _, count := range []int{9, 10, 16, 128} {
		l = append(l, with(commit(510, 16), func(p *api.Packet) {
			for len(p.Commit.Entries) < count {
				p.Commit.Entries = append(p.Commit.Entries, p.Commit.Entries[7])
			}
		}))
		l = append(l, with(commit(10, 1), func(p *api.Packet) { p.Commit.Entries = make([]api.Entry, count) }))
	}
	return l
}

func badJoins() []api.Packet {
	var l []api.Packet
	change := func(f func(p *api.Packet)) { l = append(l, with(join(), f)) }
	for _, v := range append(without(), 1, 2, 8) {
		change(func(p *api.Packet) { p.To = v })
	}
	for _, v := range append(without(), 0, 9, 3, 8) {
		change(func(p *api.Packet) { p.Join.Sender = v })
	}
	for _, v := range append(badCrews(), 0, 7, 518, 4|1, 4|512) {
		change(func(p *api.Packet) { p.Join.Proc = v })
	}
	for sender := 1; sender <= 8; sender++ {
		change(func(p *api.Packet) { p.Join.Sender, p.Join.Proc = sender, 510&^(1<<sender) })
	}
	for _, v := range without() {
		change(func(p *api.Packet) { p.Join.Counter = v })
	}
	change(func(p *api.Packet) { p.Join.Sender, p.Join.Proc = 0, 1 })
	change(func(p *api.Packet) { p.Join.Sender, p.Join.Proc = 9, 512 })
	change(func(p *api.Packet) { p.Join = api.Join{} })
	return l
}

func badCommits() []api.Packet {
	var l []api.Packet
	for _, crew := range []int{2, 256, 10, 384, 42, 510} {
		n := len(membersOf(crew))
		for _, hop := range []int{1, n, n + 1, 2 * n} {
			if hop <= 2*n {
				l = append(l, badLike(commit(crew, hop))...)
			}
		}
		for _, hop := range []int{0, -1, 2*n + 1, 2*n + 2, 3 * n, math.MinInt, math.MaxInt, most, most + 1} {
			l = append(l, with(commit(crew, min(hop, 2*n)), func(p *api.Packet) { p.To, p.Commit.Hop = commit(crew, hop).To, hop }))
		}
	}
	return append(l, api.Packet{Kind: api.PacketCommit}, api.Packet{Kind: api.PacketCommit, Commit: api.Commit{Ring: ring(1, 1), Hop: 1}})
}

// badLike answers commits like p, which may be, that may not.
func badLike(p api.Packet) []api.Packet {
	var l []api.Packet
	change := func(f func(p *api.Packet, c *api.Commit)) {
		l = append(l, with(p, func(p *api.Packet) { f(p, &p.Commit) }))
	}
	for to := -1; to <= 10; to++ {
		if to != p.To {
			change(func(p *api.Packet, c *api.Commit) { p.To = to })
		}
	}
	for _, r := range badRings() {
		change(func(p *api.Packet, c *api.Commit) { c.Ring = r })
	}
	for rep := 1; rep <= 8; rep++ {
		if rep != p.Commit.Ring.Rep {
			change(func(p *api.Packet, c *api.Commit) { c.Ring.Rep = rep })
		}
	}
	for _, v := range append(badCrews(), 0, p.Commit.Members|1, p.Commit.Members|512, p.Commit.Members|math.MinInt) {
		change(func(p *api.Packet, c *api.Commit) { c.Members = v })
	}
	for i := range p.Commit.Entries {
		change(func(p *api.Packet, c *api.Commit) { c.Entries = slices.Delete(c.Entries, i, i+1) }) // one too few
		change(func(p *api.Packet, c *api.Commit) { c.Entries = slices.Insert(c.Entries, i, c.Entries[i]) })
		l = append(l, badEntries(p, i)...)
	}
	if len(p.Commit.Entries) > 1 {
		change(func(p *api.Packet, c *api.Commit) { c.Entries[0], c.Entries[1] = c.Entries[1], c.Entries[0] })
	}
	change(func(p *api.Packet, c *api.Commit) { c.Entries = append(c.Entries, c.Entries[0]) })
	change(func(p *api.Packet, c *api.Commit) { c.Entries = nil })
	return l
}

// badEntries answers commits like p whose entry at is one that may not be.
func badEntries(p api.Packet, at int) []api.Packet {
	var l []api.Packet
	change := func(f func(x *api.Entry)) {
		l = append(l, with(p, func(p *api.Packet) { f(&p.Commit.Entries[at]) }))
	}
	for _, v := range append(without(), 0, 9, p.Commit.Entries[at].Node%8+1, most) {
		change(func(x *api.Entry) { x.Node = v })
	}
	for _, r := range badRings() {
		change(func(x *api.Entry) { x.Old = r })
	}
	for _, v := range without() {
		change(func(x *api.Entry) { x.Aru = v })
		change(func(x *api.Entry) { x.High = v })
		change(func(x *api.Entry) { x.Aru, x.High = v, v })
		change(func(x *api.Entry) { x.Clock = v })
	}
	change(func(x *api.Entry) { x.Aru = x.High + 1 })
	change(func(x *api.Entry) { x.Aru, x.High = 1, 0 })
	change(func(x *api.Entry) { x.Aru, x.High = most, most-1 })
	change(func(x *api.Entry) { *x = api.Entry{} })
	return l
}

func badBeacons() []api.Packet {
	var l []api.Packet
	change := func(f func(p *api.Packet)) { l = append(l, with(beacon(), f)) }
	for _, v := range append(without(), 1, 2, 8) {
		change(func(p *api.Packet) { p.To = v })
	}
	for _, r := range badRings() {
		change(func(p *api.Packet) { p.Beacon.Ring = r })
	}
	for _, v := range append(without(), 0, 9) {
		change(func(p *api.Packet) { p.Beacon.Sender = v })
	}
	change(func(p *api.Packet) { p.Beacon = api.Beacon{} })
	return l
}

// badKinds answers packets of kinds that are none, or of another one than their field.
func badKinds() []api.Packet {
	l := []api.Packet{{}, {To: 1}}
	for _, kind := range append(without(), 0, 1, 2, 3, 4, 5, 6, 7, 128, 257, 1<<32+1, most) {
		for _, p := range everyKind() {
			if kind != p.Kind {
				l = append(l, with(p, func(p *api.Packet) { p.Kind = kind }), with(p, func(p *api.Packet) { p.Kind, p.To = kind, 0 }))
			}
		}
		l = append(l, api.Packet{Kind: kind})
	}
	return l
}

// badFields answers packets of the five kinds, with nothing but what is of their kind, and lists that are not too long.
func badFields() []api.Packet {
	return slices.Concat(badData(), badTokens(), badJoins(), badCommits(), badBeacons())
}

// bad answers packets that may not be.
func bad() []api.Packet {
	return slices.Concat(badKinds(), badForeign(), badFields(), badLongBodies(), badCounts())
}

// P6.1

func TestPack(t *testing.T) {
	cases := []struct {
		p    api.Packet
		want string
	}{
		{join(), "03 00 02 06 AC 02"},
		{beacon(), "05 00 04 01 03"},
		{api.Packet{Kind: api.PacketToken, To: 2, Token: api.Token{Ring: ring(4, 1), Hop: 7, Seq: 9, Aru: 8, Low: 3, Stamp: 20, Idle: 2, Ask: []int{9}}}, "02 02 04 01 07 09 08 03 14 02 01 09"},
		{token(), "02 02 04 01 07 14 08 03 15 02 00"},
		{token(1, 9, 20), "02 02 04 01 07 14 08 03 15 02 03 01 09 14"},
		{data(marked()), "01 00 04 01 09 02 4D 0D 02 03 00 00 00 00 00 00 05 02 01 07 00"},
		{data(text()), "01 00 04 01 09 02 4D 0F 01 01 09 02 00 01 82 01 01 00 00 00 00 01 41"},
		{data(want()), "01 00 04 01 09 02 4D 0D 03 08 00 00 00 00 00 00 00 00 00 00 00"},
		{commit(10, 1), "04 03 AC 02 01 0A 01 01 01 04 08 00 01 C8 01"},
		{commit(10, 2), "04 01 AC 02 01 0A 02 02 01 04 08 00 01 C8 01 03 05 06 03 06 D8 04"},
		{commit(10, 3), "04 03 AC 02 01 0A 03 02 01 04 08 00 01 C8 01 03 05 06 03 06 D8 04"},
		{commit(10, 4), "04 01 AC 02 01 0A 04 02 01 04 08 00 01 C8 01 03 05 06 03 06 D8 04"},
		{api.Packet{Kind: api.PacketBeacon, Beacon: api.Beacon{Ring: ring(most, 8), Sender: 8}}, "05 00 FF FF FF FF FF FF FF 0F 08 08"},
	}
	for _, c := range cases {
		open := bytesOf(t, c.want)
		b, e := packet.Pack(c.p)
		if !bytes.Equal(b, sealed(open)) || e != api.OK {
			t.Errorf("Pack(%+v): % X, %d, want %s and its check", c.p, b, e, c.want)
		}
		if p, e := packet.Unpack(sealed(open)); !same(p, c.p) || e != api.OK {
			t.Errorf("Unpack(%s and its check): %+v, %d, want %+v", c.want, p, e, c.p)
		}
	}
}

func TestPackSeals(t *testing.T) {
	want := bytesOf(t, "05 00 04 01 03 89 D9 B0 4A") // the check, worked out apart from all of this
	if b, e := packet.Pack(beacon()); !bytes.Equal(b, want) || e != api.OK {
		t.Errorf("Pack(a beacon): % X, %d, want % X", b, e, want)
	}
}

func TestPacketsThatMayBe(t *testing.T) {
	for _, p := range good() {
		if e := packet.Check(p); e != api.OK || !mayBe(p) {
			t.Errorf("Check(%+v): %d", p, e)
		}
		if b, e := packet.Pack(p); !bytes.Equal(b, written(p)) || e != api.OK {
			t.Errorf("Pack(%+v): % X, %d, want % X", p, b, e, written(p))
		}
	}
}

func checkRefused(t *testing.T, p api.Packet) {
	t.Helper()
	if e := packet.Check(p); e != api.ErrArg || mayBe(p) {
		t.Errorf("Check(%+v): %d", p, e)
	}
	if b, e := packet.Pack(p); len(b) != 0 || e != api.ErrArg {
		t.Errorf("Pack(%+v): % X, %d", p, b, e)
	}
}

func TestPacketsThatMayNotBe(t *testing.T) {
	for _, p := range bad() {
		checkRefused(t, p)
	}
}

func TestPacketsOfTwoKinds(t *testing.T) {
	for _, a := range good() {
		for _, b := range everyKind() {
			if a.Kind == b.Kind {
				continue
			}
			p := copyOf(b)
			switch a.Kind {
			case api.PacketData:
				p.Data = a.Data
			case api.PacketToken:
				p.Token = a.Token
			case api.PacketJoin:
				p.Join = a.Join
			case api.PacketCommit:
				p.Commit = a.Commit
			case api.PacketBeacon:
				p.Beacon = a.Beacon
			}
			checkRefused(t, p)
		}
	}
}

func TestJoinsOfAllCrews(t *testing.T) {
	for proc := -600; proc <= 1200; proc++ {
		for sender := -1; sender <= 10; sender++ {
			p := api.Packet{Kind: api.PacketJoin, Join: api.Join{Sender: sender, Proc: proc, Counter: 1}}
			if e := packet.Check(p); (e == api.OK) != mayBe(p) {
				t.Errorf("Check(%+v): %d", p, e)
			}
		}
	}
}

func TestCommitsOfAllCrews(t *testing.T) {
	for crew := 2; crew <= 510; crew += 2 {
		n := len(membersOf(crew))
		for hop := 1; hop <= 2*n; hop++ {
			p := commit(crew, hop)
			checkThereAndBack(t, p)
			for to := 0; to <= 9; to++ {
				q := with(p, func(p *api.Packet) { p.To = to })
				if e := packet.Check(q); (e == api.OK) != (to == p.To) {
					t.Errorf("Check(%+v): %d", q, e)
				}
			}
			for count := 0; count <= n; count++ {
				q := with(commit(crew, n), func(q *api.Packet) { q.To, q.Commit.Hop, q.Commit.Entries = p.To, hop, q.Commit.Entries[:count] })
				if e := packet.Check(q); (e == api.OK) != (count == min(hop, n)) {
					t.Errorf("Check(%+v): %d", q, e)
				}
			}
		}
	}
}

func TestACommitGoesAround(t *testing.T) {
	for crew := 2; crew <= 510; crew += 2 {
		l := membersOf(crew)
		for hop := 1; hop <= 2*len(l); hop++ { // the representative sends the first one to the member behind it
			to := l[hop%len(l)]
			if p := commit(crew, hop); p.To != to || packet.Check(p) != api.OK {
				t.Errorf("crew %d, hop %d: to %d, %d", crew, hop, p.To, packet.Check(p))
			}
		}
	}
}

func TestTokensOfSmallNumbers(t *testing.T) {
	for i := range 5 * 5 * 6 * 6 {
		seq, aru, first, second := i%5-1, i/5%5-1, i/25%6-1, i/150-1
		for _, ask := range [][]int{nil, {first}, {first, second}} {
			p := api.Packet{Kind: api.PacketToken, To: 1, Token: api.Token{Ring: ring(1, 1), Hop: 1, Seq: seq, Aru: aru, Ask: ask}}
			if e := packet.Check(p); (e == api.OK) != mayBe(p) {
				t.Errorf("Check(%+v): %d", p, e)
			}
		}
	}
}

// P6.2

func checkUnpackRefuses(t *testing.T, b []byte, want api.Errno) {
	t.Helper()
	if p, e := packet.Unpack(b); !isNone(p) || e != want {
		t.Errorf("Unpack(% X): %+v, %d, want %d", b, p, e, want)
	}
}

func TestUnpackOfGood(t *testing.T) {
	for _, p := range good() {
		if x, e := packet.Unpack(written(p)); !same(x, p) || e != api.OK {
			t.Errorf("Unpack(% X): %+v, %d, want %+v", written(p), x, e, p)
		}
	}
}

func TestUnpackRefuses(t *testing.T) {
	cases := []struct {
		b    string
		want api.Errno
	}{
		{"", api.ErrTrunc},
		{"00", api.ErrSyntax}, // a kind is looked at ahead of all behind it
		{"06", api.ErrSyntax},
		{"06 80 00", api.ErrSyntax},
		{"80", api.ErrTrunc},
		{"80 00", api.ErrSyntax},
		{"81 00", api.ErrSyntax},
		{"85 00 00 04 01 03", api.ErrSyntax},
		{"81 01", api.ErrSyntax}, // 129
		{"FF FF FF FF FF FF FF 0F", api.ErrSyntax},
		{"FF FF FF FF FF FF FF 10", api.ErrSyntax},
		{"FF FF FF FF FF FF FF FF", api.ErrSyntax},
		{"FF FF FF FF FF FF FF", api.ErrTrunc},
		{"05", api.ErrTrunc},
		{"05 00 04 01", api.ErrTrunc},
		{"05 00 04 01 03 00", api.ErrSyntax},
		{"05 00 04 01 03 05 00 04 01 03", api.ErrSyntax},
		{"05 09 00 00", api.ErrTrunc}, // what may not be is looked at only at the end
		{"05 01 04 01 03", api.ErrSyntax},
		{"05 00 00 00 03", api.ErrSyntax},
		{"05 00 04 09 03", api.ErrSyntax},
		{"05 00 04 01 00", api.ErrSyntax},
		{"05 00 04 01 09", api.ErrSyntax},
		{"05 00 04 01 83 00", api.ErrSyntax},
		{"03 00 02 06 AC 02 00", api.ErrSyntax},
		{"03 00 02 02 AC 02", api.ErrSyntax},
		{"03 00 02 06 AC", api.ErrTrunc},
		{"03 00 02 80 08", api.ErrTrunc},
		{"03 00 09 80 08 00", api.ErrSyntax},
		{"02 02 04 01 07 14 08 03 15 02", api.ErrTrunc},
		{"02 02 04 01 07 14 08 03 15 02 01", api.ErrTrunc},
		{"02 02 04 01 07 14 08 03 15 02 10", api.ErrTrunc},
		{"02 02 04 01 07 14 08 03 15 02 11", api.ErrLimit},
		{"02 09 00 00 00 00 08 09 15 02 11", api.ErrLimit},
		{"02 02 04 01 07 14 08 03 15 02 11 80 00", api.ErrLimit},
		{"02 02 04 01 07 14 08 03 15 02 91 00", api.ErrSyntax},
		{"02 02 04 01 07 14 08 03 15 02 FF FF FF FF FF FF FF 0F", api.ErrLimit},
		{"02 02 04 01 07 14 08 03 15 02 FF FF FF FF FF FF FF 10", api.ErrSyntax},
		{"02 02 04 01 07 14 08 03 15 02 02 09 09", api.ErrSyntax},
		{"02 02 04 01 07 14 08 03 15 02 02 09 08", api.ErrSyntax},
		{"02 02 04 01 07 14 08 03 15 02 02 09", api.ErrTrunc},
		{"02 02 04 01 07 14 08 03 15 02 02 89 00 0A", api.ErrSyntax},
		{"02 02 04 01 07 14 08 03 15 02 01 00", api.ErrSyntax},
		{"02 02 04 01 07 14 08 03 15 02 01 15", api.ErrSyntax},
		{"02 02 04 01 07 14 15 03 15 02 00", api.ErrSyntax},
		{"02 02 04 01 07 14 08 09 15 02 00", api.ErrSyntax},
		{"02 02 04 01 00 14 08 03 15 02 00", api.ErrSyntax},
		{"02 00 04 01 07 14 08 03 15 02 00", api.ErrSyntax},
		{"04 03 AC 02 01 0A 01", api.ErrTrunc},
		{"04 03 AC 02 01 0A 01 08", api.ErrTrunc},
		{"04 03 AC 02 01 0A 01 09", api.ErrLimit},
		{"04 03 00 00 00 01 09", api.ErrLimit},
		{"04 03 AC 02 01 0A 01 09 80 00", api.ErrLimit},
		{"04 03 AC 02 01 0A 01 89 00", api.ErrSyntax},
		{"04 03 AC 02 01 0A 01 00", api.ErrSyntax},
		{"04 03 AC 02 01 0A 01 01 01 04 08 00 01 C8", api.ErrTrunc},
		{"04 03 AC 02 01 0A 01 01 01 04 08 02 01 C8 01", api.ErrSyntax},
		{"04 01 AC 02 01 0A 01 01 01 04 08 00 01 C8 01", api.ErrSyntax},
		{"04 03 AC 02 03 0A 01 01 01 04 08 00 01 C8 01", api.ErrSyntax},
		{"04 03 AC 02 01 0A 05 02 01 04 08 00 01 C8 01 03 05 06 03 06 D8 04", api.ErrSyntax},
		{"04 01 AC 02 01 0A 00 00", api.ErrSyntax},
	}
	for _, c := range cases {
		checkUnpackRefuses(t, sealed(bytesOf(t, c.b)), c.want)
	}
}

func TestUnpackOfMessages(t *testing.T) {
	head := "01 00 04 01 09 02 4D "
	cases := []struct {
		b    string
		want api.Errno
	}{
		{head, api.ErrTrunc},
		{head + "80", api.ErrTrunc},
		{head + "80 00", api.ErrSyntax},
		{head + "00", api.ErrTrunc}, // the message's error: there is nothing of it
		{head + "00 00", api.ErrTrunc},
		{head + "0D 02 03 00 00 00 00 00 00 05 02 01 07", api.ErrTrunc},
		{head + "0C 02 03 00 00 00 00 00 00 05 02 01 07", api.ErrTrunc},
		{head + "0C 02 03 00 00 00 00 00 00 05 02 01 07 00", api.ErrTrunc}, // ahead of the byte that is left
		{head + "0E 02 03 00 00 00 00 00 00 05 02 01 07 00 00", api.ErrSyntax},
		{head + "0D 02 03 00 00 00 00 00 00 05 02 01 07 00 00", api.ErrSyntax},
		{head + "8D 00 02 03 00 00 00 00 00 00 05 02 01 07 00", api.ErrSyntax},
		{head + "0D 06 03 00 00 00 00 00 00 05 02 01 07 00", api.ErrSyntax},
		{head + "08 02 03 00 00 00 00 00 02", api.ErrSyntax},
		{head + "0D 02 09 00 00 00 00 00 00 05 02 01 07 00", api.ErrSyntax},
		{head + "0E 02 03 00 00 00 00 00 00 05 02 01 07 A1 01", api.ErrLimit},
		{head + "0E 02 03 00 00 00 00 00 00 05 02 01 07 A0 01", api.ErrTrunc},
		{head + "0E 02 03 00 00 00 00 00 00 05 02 01 07 A1 01 00", api.ErrLimit}, // ahead of the byte that is left
		{"01 01 00 00 00 00 00 0E 02 03 00 00 00 00 00 00 05 02 01 07 A1 01", api.ErrLimit},
		{"01 01 00 00 00 00 00 0C 02 03 00 00 00 00 00 00 05 02 01 07", api.ErrTrunc},
		{"01 01 00 00 00 00 00 0D 02 03 00 00 00 00 00 00 05 02 01 07 00", api.ErrSyntax},
		{"01 00 04 01 00 02 4D 0D 02 03 00 00 00 00 00 00 05 02 01 07 00", api.ErrSyntax},
		{"01 00 04 01 09 00 4D 0D 02 03 00 00 00 00 00 00 05 02 01 07 00", api.ErrSyntax},
		{"01 00 00 00 09 02 4D 0D 02 03 00 00 00 00 00 00 05 02 01 07 00", api.ErrSyntax},
		{"01 02 04 01 09 02 4D 0D 02 03 00 00 00 00 00 00 05 02 01 07 00", api.ErrSyntax},
		{head + "80 04", api.ErrTrunc},                   // 512 bytes that are not there
		{head + "81 04", api.ErrLimit},                   // 513 ones
		{head + "FF FF FF FF FF FF FF 0F", api.ErrLimit}, // as many as can be said
		{head + "FF FF FF FF FF FF FF 10", api.ErrSyntax},
		{"01 09 00 00 00 00 00 81 04", api.ErrLimit},
	}
	for _, c := range cases {
		checkUnpackRefuses(t, sealed(bytesOf(t, c.b)), c.want)
	}
}

func TestUnpackOfMessagesThatParcelRefuses(t *testing.T) {
	head := asNumbers(numbersOf(data(text()))...)
	inner := [][]byte{nil, {0}, {1}, filled(100), make([]byte, 13), make([]byte, 200)}
	for _, m := range messages() {
		b := messageBytes(m)
		for end := range b {
			inner = append(inner, b[:end])
		}
		inner = append(inner, append(bytes.Clone(b), 0), append(bytes.Clone(b), 0x80))
		for _, size := range []int{161, 300} {
			m.Body = filled(size)
			inner = append(inner, messageBytes(m))
		}
	}
	met := map[api.Errno]int{}
	for _, b := range inner {
		_, want := parcel.Unpack(b)
		if want == api.OK {
			t.Fatalf("parcel takes % X", b)
		}
		met[want]++
		checkUnpackRefuses(t, sealed(append(bytes.Clone(head), asOctets(b)...)), want)
		checkUnpackRefuses(t, sealed(append(append(bytes.Clone(head), asOctets(b)...), 0)), want)
	}
	for _, e := range []api.Errno{api.ErrTrunc, api.ErrSyntax, api.ErrLimit} {
		if met[e] < 3 {
			t.Errorf("error %d: met %d times", e, met[e])
		}
	}
}

func TestUnpackOfBytesThatEnd(t *testing.T) {
	for _, p := range good() {
		b := open(p)
		for end := range b {
			checkUnpackRefuses(t, sealed(b[:end]), api.ErrTrunc)
		}
		b = sealed(b)
		for end := range b { // and the check with them
			want := api.ErrSum
			if end < 4 {
				want = api.ErrTrunc
			}
			checkUnpackRefuses(t, b[:end], want)
		}
	}
}

func TestUnpackOfBytesBehindTheEnd(t *testing.T) {
	for _, p := range good() {
		for _, more := range [][]byte{{0}, {1}, {0x80}, {0xFF}, filled(200)} {
			checkUnpackRefuses(t, sealed(append(open(p), more...)), api.ErrSyntax)
			checkUnpackRefuses(t, append(written(p), more...), api.ErrSum)
		}
	}
}

func TestUnpackOfBytesWithoutACheck(t *testing.T) {
	for _, p := range good() {
		checkUnpackRefuses(t, open(p), api.ErrSum)
	}
	for size := range 4 {
		checkUnpackRefuses(t, make([]byte, size), api.ErrTrunc)
		checkUnpackRefuses(t, filled(size), api.ErrTrunc)
	}
	checkUnpackRefuses(t, nil, api.ErrTrunc)
	checkUnpackRefuses(t, make([]byte, 4), api.ErrTrunc) // the check of nothing, and then nothing
	checkUnpackRefuses(t, []byte{0, 0, 0, 1}, api.ErrSum)
}

// padded answers sealed bytes, so many, that begin with those of p.
func padded(p api.Packet, size int) []byte {
	b := open(p)
	return sealed(append(b, make([]byte, size-4-len(b))...))
}

func TestUnpackOfManyBytes(t *testing.T) {
	for _, p := range everyKind() {
		for size := 505; size <= 512; size++ {
			checkUnpackRefuses(t, padded(p, size), api.ErrSyntax)
		}
		for _, size := range []int{513, 514, 600, 5000} {
			checkUnpackRefuses(t, padded(p, size), api.ErrLimit)
		}
	}
	for _, size := range []int{511, 512} {
		checkUnpackRefuses(t, make([]byte, size), api.ErrSum)
		checkUnpackRefuses(t, filled(size), api.ErrSum)
	}
	for _, size := range []int{513, 514, 1 << 20} {
		checkUnpackRefuses(t, make([]byte, size), api.ErrLimit)
		checkUnpackRefuses(t, filled(size), api.ErrLimit)
	}
}

func TestUnpackOfLongOctets(t *testing.T) {
	head := asNumbers(numbersOf(data(text()))...)
	inner := messageBytes(text())
	size := 512 - 4 - len(head) - 2
	inner = append(inner, make([]byte, size-len(inner))...) // as many as there is room for: all of them are the message's
	b := sealed(append(bytes.Clone(head), asOctets(inner)...))
	if len(b) != 512 {
		t.Fatalf("%d bytes", len(b))
	}
	checkUnpackRefuses(t, b, api.ErrSyntax)
	for _, count := range []int{size + 1, 511, 512} {
		checkUnpackRefuses(t, sealed(slices.Concat(head, asNumbers(count), inner)), api.ErrTrunc)
	}
	for _, count := range []int{513, 514, 5000, most} {
		checkUnpackRefuses(t, sealed(slices.Concat(head, asNumbers(count), inner[:400])), api.ErrLimit)
		checkUnpackRefuses(t, sealed(slices.Concat(head, asNumbers(count))), api.ErrLimit)
	}
}

func TestUnpackOfLongNumbers(t *testing.T) {
	for _, p := range good() {
		var ahead []byte
		whole := open(p)
		l := numbersOf(p)
		if p.Kind == api.PacketData {
			l = append(l, len(messageBytes(p.Data.Message)))
		}
		for _, v := range l {
			short := asNumbers(v)
			ahead = append(ahead, short...)
			if len(short) == 8 {
				continue // a ninth byte is refused as such
			}
			long := append(bytes.Clone(ahead), 0)
			long[len(ahead)-1] |= 0x80
			checkUnpackRefuses(t, sealed(long), api.ErrSyntax) // ahead of all that is behind it
			checkUnpackRefuses(t, sealed(append(long, whole[len(ahead):]...)), api.ErrSyntax)
		}
	}
}

func TestUnpackOfNumbersAbove(t *testing.T) {
	for _, p := range good() {
		for i := range numbersOf(p) {
			l := numbersOf(p)
			l[i] = most + 1
			checkUnpackRefuses(t, sealed(asNumbers(l...)), api.ErrSyntax)
			checkUnpackRefuses(t, sealed(asNumbers(l[:i+1]...)), api.ErrSyntax)
			l[i] = 1 << 56 // nine bytes
			checkUnpackRefuses(t, sealed(asNumbers(l[:i+1]...)), api.ErrSyntax)
		}
	}
}

func TestUnpackOfKinds(t *testing.T) {
	for kind := range 700 {
		want := api.ErrTrunc
		if kind < 1 || kind > 5 {
			want = api.ErrSyntax
		}
		checkUnpackRefuses(t, sealed(asNumbers(kind)), want)
		checkUnpackRefuses(t, sealed(append(asNumbers(kind), 0x80)), want)
	}
	for _, kind := range []int{0, 6, 7, 257, 1 << 32, 1<<32 + 1, most} {
		for _, p := range good() {
			l := numbersOf(p)
			l[0] = kind
			checkUnpackRefuses(t, sealed(asNumbers(l...)), api.ErrSyntax)
		}
	}
}

func TestUnpackOfCounts(t *testing.T) {
	for count := range 400 {
		for _, p := range []api.Packet{token(), commit(10, 3), with(token(), func(p *api.Packet) { p.To, p.Token.Hop = 9, 0 }), with(commit(10, 3), func(p *api.Packet) { p.Commit.Members = 0 })} {
			p.Commit.Entries = nil
			highest := 16
			if p.Kind == api.PacketCommit {
				highest = 8
			}
			l := numbersOf(p)
			l[len(l)-1] = count
			b := asNumbers(l...)
			want := api.ErrTrunc
			switch {
			case count > highest:
				want = api.ErrLimit
			case count == 0:
				continue
			}
			checkUnpackRefuses(t, sealed(b), want)
			checkUnpackRefuses(t, sealed(append(b, 0x80)), want)
			checkUnpackRefuses(t, sealed(append(b, make([]byte, count-1)...)), want)
		}
	}
	for _, p := range badCounts() {
		if b := written(p); len(b) <= 512 {
			checkUnpackRefuses(t, b, api.ErrLimit)
		} else {
			checkUnpackRefuses(t, b[:512], api.ErrSum)
			checkUnpackRefuses(t, sealed(b[:508]), api.ErrLimit)
		}
	}
}

func TestUnpackOfPacketsThatMayNotBe(t *testing.T) {
	count := 0
	for _, p := range badFields() {
		if _, e := parcel.Unpack(messageBytes(p.Data.Message)); p.Kind == api.PacketData && e != api.OK || !canWrite(p) || len(written(p)) > 512 || len(p.Commit.Entries) > 8 {
			continue
		}
		count++
		b := open(p)
		checkUnpackRefuses(t, sealed(b), api.ErrSyntax)
		checkUnpackRefuses(t, sealed(append(b, 0)), api.ErrSyntax)
		for end := range b {
			checkUnpackRefuses(t, sealed(b[:end]), api.ErrTrunc)
		}
	}
	if count < 500 {
		t.Errorf("%d packets alone", count)
	}
}

func TestUnpackFillsNothingElse(t *testing.T) {
	for _, p := range good() {
		x, e := packet.Unpack(written(p))
		if e != api.OK || !mayBe(x) {
			t.Fatalf("Unpack(% X): %+v, %d", written(p), x, e)
		}
	}
}

// P6.3

// roomy answers b with spare room behind it, and what it is all in all.
func roomy(b []byte) (within, whole []byte) {
	whole = append(bytes.Clone(b), filled(64)...)
	return whole[:len(b)], whole
}

// spacious answers p with spare room behind its lists, and p as it is with that room.
func spacious(p api.Packet) (within, whole api.Packet) {
	whole = copyOf(p)
	whole.Data.Message.Body = append(whole.Data.Message.Body, filled(64)...)
	whole.Token.Ask = append(whole.Token.Ask, rising(20, 70)...)
	whole.Commit.Entries = append(whole.Commit.Entries, make([]api.Entry, 20)...)
	within = whole
	within.Data.Message.Body = whole.Data.Message.Body[:len(p.Data.Message.Body)]
	within.Token.Ask = whole.Token.Ask[:len(p.Token.Ask)]
	within.Commit.Entries = whole.Commit.Entries[:len(p.Commit.Entries)]
	return within, whole
}

// scribble writes into b, and into its spare room.
func scribble(b []byte) {
	b = b[:cap(b)]
	for i := range b {
		b[i] ^= 0xFF
	}
}

// scribbleAll writes into all lists of p, and into their spare room.
func scribbleAll(p api.Packet) {
	scribble(p.Data.Message.Body)
	ask := p.Token.Ask[:cap(p.Token.Ask)]
	for i := range ask {
		ask[i] = -7
	}
	entries := p.Commit.Entries[:cap(p.Commit.Entries)]
	for i := range entries {
		entries[i] = api.Entry{Node: -7, Old: ring(-7, -7), Aru: -7, High: -7, Clock: -7}
	}
}

func TestPacketsAreOnlyRead(t *testing.T) {
	for _, p := range append(good(), bad()...) {
		within, whole := spacious(p)
		before := copyOf(whole)
		packet.Check(within)
		b, _ := packet.Pack(within)
		if !reflect.DeepEqual(whole, before) || !same(within, p) {
			t.Fatalf("%+v: was changed", p)
		}
		scribble(b)
		if !reflect.DeepEqual(whole, before) {
			t.Fatalf("%+v: is in what was answered", p)
		}
	}
}

func TestPackIsNewMemory(t *testing.T) {
	for _, p := range good() {
		within, whole := spacious(p)
		a, _ := packet.Pack(within)
		b, _ := packet.Pack(within)
		scribble(a)
		if !bytes.Equal(b, written(p)) {
			t.Fatalf("%+v: two answers of Pack are one", p)
		}
		scribbleAll(whole)
		if !bytes.Equal(b, written(p)) {
			t.Fatalf("%+v: what Pack answered is in what was handed in", p)
		}
	}
}

func TestBytesAreOnlyRead(t *testing.T) {
	for _, p := range good() {
		for _, b := range [][]byte{written(p), open(p), sealed(append(open(p), 0)), make([]byte, 600)} {
			within, whole := roomy(b)
			before := bytes.Clone(whole)
			x, _ := packet.Unpack(within)
			scribbleAll(x)
			if !bytes.Equal(whole, before) {
				t.Fatalf("%+v: its bytes were changed", p)
			}
		}
	}
}

func TestUnpackIsNewMemory(t *testing.T) {
	for _, p := range good() {
		within, whole := roomy(written(p))
		x, _ := packet.Unpack(within)
		y, _ := packet.Unpack(within)
		scribbleAll(x)
		if !same(y, p) {
			t.Fatalf("%+v: two answers of Unpack are one", p)
		}
		scribble(whole)
		if !same(y, p) {
			t.Fatalf("%+v: Unpack kept what was handed in", p)
		}
		if z, e := packet.Unpack(written(p)); e != api.OK || !same(z, p) {
			t.Fatalf("%+v: writing into an answer changes another call's", p)
		}
	}
}

// P6.4

func checkThereAndBack(t testing.TB, p api.Packet) {
	t.Helper()
	b, e := packet.Pack(p)
	if e != api.OK || !bytes.Equal(b, written(p)) {
		t.Fatalf("Pack(%+v): % X, %d, want % X", p, b, e, written(p))
	}
	x, e := packet.Unpack(b)
	if e != api.OK || !same(x, p) {
		t.Fatalf("Unpack(% X): %+v, %d, want %+v", b, x, e, p)
	}
}

// checkBackAndThere tells whether b is a packet, and holds it against what that is packed into.
func checkBackAndThere(t testing.TB, b []byte) bool {
	t.Helper()
	p, e := packet.Unpack(b)
	if e != api.OK {
		if !isNone(p) {
			t.Fatalf("Unpack(% X): %+v beside %d", b, p, e)
		}
		return false
	}
	if c, e := packet.Pack(p); e != api.OK || !bytes.Equal(c, b) || !mayBe(p) {
		t.Fatalf("Pack(Unpack(% X)): % X, %d", b, c, e)
	}
	return true
}

func TestThereAndBack(t *testing.T) {
	for _, p := range good() {
		checkThereAndBack(t, p)
		if !checkBackAndThere(t, written(p)) {
			t.Errorf("%+v: refused", p)
		}
	}
}

func TestLongestPackets(t *testing.T) {
	sizes := []int{0, 165, 185, 17, 291, 16}
	for _, p := range longest() {
		b, e := packet.Pack(p)
		if e != api.OK || len(b) != sizes[p.Kind] || len(b) > 512 {
			t.Errorf("kind %d: %d bytes, %d", p.Kind, len(b), e)
		}
		checkThereAndBack(t, p)
	}
	for _, p := range good() {
		if b, e := packet.Pack(p); e != api.OK || len(b) > sizes[p.Kind] {
			t.Errorf("Pack(%+v): %d bytes, %d", p, len(b), e)
		}
	}
}

func TestTurnedBits(t *testing.T) {
	for _, p := range slices.Concat(everyKind(), longest(), []api.Packet{token(), token(1), token(rising(16, 20)...), commit(2, 1), commit(510, 8), data(old(chart()))}) {
		b, _ := packet.Pack(p)
		for i := range 8 * len(b) {
			b[i/8] ^= 1 << (i % 8)
			checkUnpackRefuses(t, b, api.ErrSum)
			b[i/8] ^= 1 << (i % 8)
		}
		if !checkBackAndThere(t, b) {
			t.Errorf("%+v: refused", p)
		}
	}
}

func TestTurnedBitsOfAll(t *testing.T) {
	r := rand.New(rand.NewSource(7))
	for _, p := range good() {
		b, _ := packet.Pack(p)
		for range 20 {
			i := r.Intn(8 * len(b))
			b[i/8] ^= 1 << (i % 8)
			checkUnpackRefuses(t, b, api.ErrSum)
			b[i/8] ^= 1 << (i % 8)
		}
	}
}

func someNumber(r *rand.Rand) int { return r.Intn(1 << r.Intn(54)) }

func someRing(r *rand.Rand) api.RingId { return ring(1+someNumber(r)/2, 1+r.Intn(8)) }

func someMessage(r *rand.Rand) api.Message {
	l := messages()
	m := l[r.Intn(len(l))]
	m.Origin = 1 + r.Intn(8)
	if m.Kind == api.MsgText {
		m.Life, m.Id, m.Groups = 1+someNumber(r)/2, someNumber(r), 1+r.Intn(255)
		m.Body = make([]byte, r.Intn(49))
		r.Read(m.Body)
	}
	return m
}

func someToken(r *rand.Rand) api.Token {
	t := api.Token{Ring: someRing(r), Hop: 1 + someNumber(r)/2, Seq: someNumber(r), Low: r.Intn(9), Stamp: someNumber(r), Idle: someNumber(r)}
	t.Aru = r.Intn(t.Seq + 1)
	for range r.Intn(17) {
		if t.Seq > 0 {
			t.Ask = append(t.Ask, 1+r.Intn(t.Seq))
		}
	}
	slices.Sort(t.Ask)
	t.Ask = slices.Compact(t.Ask)
	return t
}

func someCommit(r *rand.Rand) api.Packet {
	crew := 2 * (1 + r.Intn(255))
	p := commit(crew, 1+r.Intn(2*len(membersOf(crew))))
	p.Commit.Ring.Seq = someRing(r).Seq
	for i := range p.Commit.Entries {
		x := &p.Commit.Entries[i]
		x.Old, x.High, x.Clock = someRing(r), someNumber(r), someNumber(r)
		x.Aru = r.Intn(x.High + 1)
	}
	return p
}

// somePacket answers a packet that may be, of the kind.
func somePacket(r *rand.Rand, kind int) api.Packet {
	sender := 1 + r.Intn(8)
	switch kind {
	case api.PacketData:
		return api.Packet{Kind: kind, Data: api.Data{Ring: someRing(r), Seq: 1 + someNumber(r)/2, Sender: sender, Stamp: someNumber(r), Message: someMessage(r)}}
	case api.PacketToken:
		return api.Packet{Kind: kind, To: sender, Token: someToken(r)}
	case api.PacketJoin:
		return api.Packet{Kind: kind, Join: api.Join{Sender: sender, Proc: 2*r.Intn(256) | 1<<sender, Counter: someNumber(r)}}
	case api.PacketCommit:
		return someCommit(r)
	}
	return api.Packet{Kind: kind, Beacon: api.Beacon{Ring: someRing(r), Sender: sender}}
}

// spoil answers b with something about it that is another.
func spoil(r *rand.Rand, b []byte) []byte {
	b = bytes.Clone(b)
	at := r.Intn(len(b))
	switch r.Intn(4) {
	case 0:
		b[at] ^= 1 << r.Intn(8)
	case 1:
		b[at] = byte(r.Intn(12))
	case 2:
		b = slices.Insert(b, at, byte(r.Intn(256)))
	case 3:
		b = slices.Delete(b, at, at+1)
	}
	return b
}

func TestSomePackets(t *testing.T) {
	r := rand.New(rand.NewSource(8))
	well := 0
	for range 20000 {
		p := somePacket(r, 1+r.Intn(5))
		checkThereAndBack(t, p)
		b := open(p)
		for range 3 {
			if b = spoil(r, b); checkBackAndThere(t, sealed(b)) {
				well++
			}
			if checkBackAndThere(t, append(b, written(p)[len(open(p)):]...)) && !bytes.Equal(b, open(p)) {
				t.Fatalf("% X: is a packet with another one's check", b)
			}
		}
	}
	if well < 1000 {
		t.Errorf("%d spoilt ones alone were packets", well)
	}
}

// fieldsOf answers where the numbers of p stand.
func fieldsOf(p *api.Packet) []*int {
	d, t, c := &p.Data, &p.Token, &p.Commit
	l := []*int{&p.Kind, &p.To, &d.Ring.Seq, &d.Ring.Rep, &d.Seq, &d.Sender, &d.Stamp, &d.Message.Kind, &d.Message.Origin, &d.Message.Life, &d.Message.From.Seq,
		&t.Ring.Seq, &t.Ring.Rep, &t.Hop, &t.Seq, &t.Aru, &t.Low, &t.Stamp, &t.Idle, &p.Join.Sender, &p.Join.Proc, &p.Join.Counter,
		&c.Ring.Seq, &c.Ring.Rep, &c.Members, &c.Hop, &p.Beacon.Ring.Seq, &p.Beacon.Ring.Rep, &p.Beacon.Sender}
	for i := range t.Ask {
		l = append(l, &t.Ask[i])
	}
	for i := range c.Entries {
		x := &c.Entries[i]
		l = append(l, &x.Node, &x.Old.Seq, &x.Old.Rep, &x.Aru, &x.High, &x.Clock)
	}
	return l
}

func TestEachNumberOfPackets(t *testing.T) {
	values := append(append(edges(), without()...), 2, 3, 4, 5, 6, 7, 8, 9, 10, 16, 17, 20, 21, 22, 30, 256, 258, 510, 511, 512)
	r := rand.New(rand.NewSource(9))
	may, not := 0, 0
	for range 100 {
		for kind := 1; kind <= 5; kind++ {
			p := somePacket(r, kind)
			for _, at := range fieldsOf(&p) {
				before := *at
				for _, v := range append(values, before-1, before+1) {
					*at = v
					e := packet.Check(p)
					switch {
					case mayBe(p) && e == api.OK:
						may++
					case !mayBe(p) && e == api.ErrArg:
						not++
					default:
						t.Fatalf("Check(%+v): %d", p, e)
					}
				}
				*at = before
			}
		}
	}
	if may < 1000 || not < 1000 {
		t.Errorf("%d may be, %d may not", may, not)
	}
}

func FuzzBytes(f *testing.F) {
	for _, p := range good() {
		f.Add(open(p))
	}
	f.Fuzz(func(t *testing.T, b []byte) {
		checkBackAndThere(t, b)
		checkBackAndThere(t, sealed(b))
	})
}
