package flow_test

import (
	"fmt"

	"teasel/api"
	"teasel/event"
	"teasel/flow"
)

func ExampleNew() {
	f, outs, e := flow.New(3, 1, 2, 10, []byte("in"), 5)
	task := outs[0]
	fmt.Println(e, task.Kind == flow.OTask, task.List, task.Ref, task.Turn)

	outs, e = f.Decides(task.Ref, task.Turn, 6)
	fmt.Println(e, outs[0].Kind == flow.OLate, outs[0].At)

	outs, e = f.Decide(task.Ref, task.Turn, []api.Decision{{Kind: api.DTimer, Id: 1, N: 20}}, 8)
	timer := outs[0]
	fmt.Println(e, timer.Kind == flow.OTimer, timer.At)

	outs, e = f.Fire(flow.OTimer, timer.Ref, 0, timer.At)
	fmt.Println(e, outs[0].Kind == flow.OTask, f.Wants(outs[0].Ref, outs[0].Turn))

	outs, e = f.Terminate([]byte("enough"), 30)
	fmt.Println(e, outs[0].Kind == flow.OClose, f.Status() == api.STerminated, string(f.Result()))
	for _, x := range f.Events(1) {
		fmt.Print(event.Name(x.Kind), " ")
	}
	// Output:
	// ok true 2 2 0
	// ok true 16
	// ok true 28
	// ok true true
	// ok true true enough
	// started scheduled decides decided timer fired scheduled terminated
}

// What came while a task was begun must be seen ahead of the run's end.
func ExampleFlow_Decide() {
	f, outs, _ := flow.New(3, 1, 2, 10, nil, 0)
	f.Decides(outs[0].Ref, outs[0].Turn, 1)
	f.Signal([]byte("wait"), 2)
	end := []api.Decision{{Kind: api.DComplete}}
	outs, e := f.Decide(outs[0].Ref, outs[0].Turn, end, 3)
	fmt.Println(e, outs[0].Kind == flow.OTask, outs[0].Turn)

	f.Decides(outs[0].Ref, outs[0].Turn, 4)
	outs, e = f.Decide(outs[0].Ref, outs[0].Turn, end, 5)
	fmt.Println(e, outs[0].Kind == flow.OClose, f.Status() == api.SCompleted)
	// Output:
	// late true 1
	// ok true true
}

func ExampleDecode() {
	f, _, _ := flow.New(3, 1, 2, 10, nil, 0)
	g, err := flow.Decode(f.Encode())
	fmt.Println(g.Run(), g.Len(), g.Wants(2, 0), err)
	_, err = flow.Decode([]byte{6, 0})
	fmt.Println(err)
	// Output:
	// 1 2 true <nil>
	// form in run at 1
}
