package packet_test

import (
	"fmt"

	"hauberk/api"
	"hauberk/packet"
)

func Example() {
	p := api.Packet{Kind: api.PacketJoin, Join: api.Join{Sender: 2, Proc: 6, Counter: 300}}
	b, e := packet.Pack(p)
	fmt.Printf("% X %v\n", b, e)
	x, e := packet.Unpack(b)
	fmt.Println(x.Kind, x.To, x.Join, e)

	b[2] ^= 1
	_, e = packet.Unpack(b)
	fmt.Println(e == api.ErrSum)
	p.Join.Sender = 3 // whom Proc has not
	fmt.Println(packet.Check(p) == api.ErrArg)
	// Output:
	// 03 00 02 06 AC 02 75 6E F5 FD hauberk: well
	// 3 0 {2 6 300} hauberk: well
	// true
	// true
}
