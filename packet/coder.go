package packet

import (
	"hauberk/api"
	"hauberk/parcel"
	"hauberk/word"
)

// coder goes through a packet in the order of its bytes, so that this order is told once for both ways: it writes what stands there (which was checked: it can be written), or it reads into there.
type coder struct {
	to   *word.Writer // nil: it reads
	from *word.Reader // nil: it writes
	e    api.Errno    // the first error of reading, behind which nothing more is read
}

func (c *coder) fail(e api.Errno) {
	if c.e == api.OK {
		c.e = e
	}
}

func (c *coder) reads() bool { return c.from != nil }

func (c *coder) number(p *int) {
	switch {
	case c.e != api.OK:
	case c.reads():
		*p, c.e = c.from.Get()
	default:
		c.to.Put(*p)
	}
}

func (c *coder) numbers(l ...*int) {
	for _, p := range l {
		c.number(p)
	}
}

func (c *coder) ring(r *api.RingId) { c.numbers(&r.Seq, &r.Rep) }

// list goes through how many there are, at most so many, and then through each.
func list[T any](c *coder, l *[]T, most int, each func(*coder, *T)) {
	count := len(*l)
	c.number(&count)
	if count > most {
		c.fail(api.ErrLimit)
		return
	}
	if c.reads() {
		*l = make([]T, count)
	}
	for i := range *l {
		each(c, &(*l)[i])
	}
}

func (c *coder) packet(p *api.Packet) {
	c.number(&p.Kind)
	if !isKind(p.Kind) {
		c.fail(api.ErrSyntax)
	}
	c.number(&p.To)
	switch p.Kind {
	case api.PacketData:
		c.data(&p.Data)
	case api.PacketToken:
		c.token(&p.Token)
	case api.PacketJoin:
		c.numbers(&p.Join.Sender, &p.Join.Proc, &p.Join.Counter)
	case api.PacketCommit:
		c.commit(&p.Commit)
	case api.PacketBeacon:
		c.ring(&p.Beacon.Ring)
		c.number(&p.Beacon.Sender)
	}
}

func (c *coder) data(d *api.Data) {
	c.ring(&d.Ring)
	c.numbers(&d.Seq, &d.Sender, &d.Stamp)
	c.message(&d.Message)
}

func (c *coder) message(m *api.Message) {
	switch {
	case c.e != api.OK:
	case c.reads():
		*m, c.e = readMessage(c.from)
	default:
		b, _ := parcel.Pack(*m)
		c.to.Octets(b)
	}
}

func readMessage(r *word.Reader) (api.Message, api.Errno) {
	b, e := r.Octets(api.MaxPacket)
	if e != api.OK {
		return api.Message{}, e
	}
	return parcel.Unpack(b)
}

func (c *coder) token(t *api.Token) {
	c.ring(&t.Ring)
	c.numbers(&t.Hop, &t.Seq, &t.Aru, &t.Low, &t.Stamp, &t.Idle)
	list(c, &t.Ask, api.MaxAsk, (*coder).number)
}

func (c *coder) commit(x *api.Commit) {
	c.ring(&x.Ring)
	c.numbers(&x.Members, &x.Hop)
	list(c, &x.Entries, api.MaxNodes, (*coder).entry)
}

func (c *coder) entry(x *api.Entry) {
	c.number(&x.Node)
	c.ring(&x.Old)
	c.numbers(&x.Aru, &x.High, &x.Clock)
}
