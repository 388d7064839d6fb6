package service_test

import (
	"fmt"

	"lictor/api"
	"lictor/sector"
	"lictor/service"
	"lictor/wire"
)

// What README.md shows of the service.
func Example() {
	d, _ := sector.New(128)
	s, _ := service.Start(d)
	ask := func(a api.Ask) {
		b, _ := wire.WriteAsk(a)
		s, b = service.Handle(s, b)
		r, _ := wire.ReadReply(b)
		fmt.Println(r.Why, r.N, r.Place, r.Decision)
	}
	ann := api.Uid{Type: "User", Id: "ann"}
	view := api.Ask{Kind: api.AskQuery, Principal: ann, Action: api.Uid{Type: "Action", Id: "view"}, Resource: ann, Context: "{far: false}"}
	ask(api.Ask{Kind: api.AskBegin})
	for _, c := range []api.Change{
		{Kind: api.ChangeSchema, Text: `entity User {}; action "view" appliesTo {principal: [User], resource: [User], context: {far: Bool}};`},
		{Kind: api.ChangeEntity, Text: `User::"ann" {};`},
		{Kind: api.ChangePolicy, Id: "near", Text: `permit(principal, action, resource) unless { context.far };`},
	} {
		ask(api.Ask{Kind: api.AskChange, Tx: 1, Change: c})
	}
	ask(api.Ask{Kind: api.AskCommit, Tx: 1})
	ask(view)
	view.Kind, view.Version = api.AskAt, 2
	ask(view)
	ask(api.Ask{Kind: api.AskCheckpoint})
	ask(api.Ask{Kind: api.AskBegin})
	s, _ = service.Fuse(s, 2)
	ask(api.Ask{Kind: api.AskCommit, Tx: 2})
	ask(view)
	s, _ = service.Crash(s, []bool{true})
	ask(api.Ask{Kind: api.AskRecover})
	ask(view)
	// Output:
	// 0 1 0 {false [] []}
	// 0 0 0 {false [] []}
	// 0 0 0 {false [] []}
	// 0 0 0 {false [] []}
	// 0 1 3 {false [] []}
	// 0 1 0 {true [near] []}
	// 19 0 0 {false [] []}
	// 0 0 0 {false [] []}
	// 0 2 0 {false [] []}
	// 15 0 0 {false [] []}
	// 15 0 0 {false [] []}
	// 0 2 0 {false [] []}
	// 0 2 0 {true [near] []}
}
