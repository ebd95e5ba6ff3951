package sample_test

import (
	"reflect"
	"testing"

	"gnomon/api"
	"gnomon/names"
	"gnomon/sample"
)

func TestPrograms(t *testing.T) {
	ops := map[api.Op]int{}
	for seed := range 300 {
		p := sample.Program(seed, sample.Small())
		if w := names.Check(p); w != (api.Wrong{}) {
			t.Fatalf("program %d: %v", seed, w)
		}
		if !reflect.DeepEqual(p, sample.Program(seed, sample.Small())) {
			t.Fatal("two programs of one number")
		}
		for _, f := range p.Funcs {
			for _, b := range f.Blocks {
				for _, x := range b.Code {
					ops[x.Op]++
				}
			}
		}
	}
	for op := api.Alloca; op <= api.Ret; op++ {
		if ops[op] < 20 {
			t.Errorf("operation %d stands %d times", op, ops[op])
		}
	}
}
