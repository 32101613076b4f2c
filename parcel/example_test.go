package parcel_test

import (
	"fmt"

	"hauberk/api"
	"hauberk/parcel"
)

func Example() {
	m := api.Message{Kind: api.MsgMark, Origin: 3, From: api.Key{Stamp: 5, Ring: api.RingId{Seq: 2, Rep: 1}, Seq: 7}}
	b, e := parcel.Pack(m)
	fmt.Printf("% X %v\n", b, e)
	x, e := parcel.Unpack(b)
	fmt.Println(x.Kind, x.Origin, x.From, e)

	again, e := parcel.Old(api.Data{Ring: api.RingId{Seq: 4, Rep: 1}, Seq: 9, Sender: 2, Stamp: 77, Message: m})
	fmt.Println(again.Kind, again.Id, again.From, e)
	d, e := parcel.Inner(again)
	fmt.Println(d.Ring, d.Seq, d.Sender, d.Stamp, d.Message.Kind, e)

	body, e := parcel.Charts([]api.Place{{Ring: 0, Id: api.RingId{Seq: 3, Rep: 2}, Members: 6}})
	fmt.Printf("% X %v\n", body, e)
	fmt.Println(parcel.Places(body))
	fmt.Println(parcel.Check(api.Message{Kind: api.MsgWant, Origin: 3, From: m.From}))
	// Output:
	// 02 03 00 00 00 00 00 00 05 02 01 07 00 hauberk: well
	// 2 3 {5 {2 1} 7} hauberk: well
	// 5 2 {77 {4 1} 9} hauberk: well
	// {4 1} 9 2 77 2 hauberk: well
	// 01 00 03 02 06 hauberk: well
	// [{0 {3 2} 6}] hauberk: well
	// hauberk: refused
}
