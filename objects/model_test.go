package objects

import (
	"cmp"
	"errors"
	"math"
	"math/rand"
	"slices"
	"strconv"
	"testing"

	"ecmacore/api"
	"ecmacore/units"
)

// model is the chapter, word by word, without a thought of how long it takes: a list of properties for each object, and a list of what came to it.
type model map[int]*thing

type thing struct {
	class string
	proto int
	fixed bool
	props []prop
	steps []step
	apart bool
}

type prop struct {
	key       string
	functions bool
	value     api.Value
	get, set  int
	w, e, c   bool
}

type step struct {
	key              string
	w, e, c, isFuncs bool
}

func clean(s string) string { return units.Text(units.Units(s)) }

func placeNumber(key string) (float64, bool) {
	n, err := strconv.ParseUint(key, 10, 64)
	return float64(n), err == nil && n <= 4294967294 && strconv.FormatUint(n, 10) == key
}

func (o *thing) find(key string) *prop {
	for i := range o.props {
		if o.props[i].key == key {
			return &o.props[i]
		}
	}
	return nil
}

func (m model) make(r int, class string, proto int) {
	m[r] = &thing{class: class, proto: proto}
	if class == "Array" {
		m[r].props = []prop{{key: "length", value: number(0), w: true}}
		m[r].steps = []step{{key: "length", w: true}}
	}
}

// value: as it comes out; false: of no kind, or an object that there is not.
func (m model) value(v api.Value) (api.Value, bool) {
	switch v.Kind {
	case api.Undefined, api.Null:
		return api.Value{Kind: v.Kind}, true
	case api.Boolean:
		if v.Num != 0 {
			return api.Value{Kind: v.Kind, Num: 1}, true
		}
		return api.Value{Kind: v.Kind}, true
	case api.Number:
		return number(v.Num), true
	case api.String:
		return text(clean(v.Text)), true
	case api.Object:
		return object(v.Ref), m[v.Ref] != nil
	}
	return v, false
}

func (m model) wrong(o *thing, key string, d *api.Desc) error {
	if d.HasValue {
		v, ok := m.value(d.Value)
		if !ok {
			return api.ErrType
		}
		d.Value = v
	}
	if d.HasGet && d.Get != 0 && m[d.Get] == nil || d.HasSet && d.Set != 0 && m[d.Set] == nil {
		return api.ErrType
	}
	if (d.HasGet || d.HasSet) && (d.HasValue || d.HasWritable) {
		return api.ErrType
	}
	if o.class == "Array" && key == "length" && d.HasValue {
		n := d.Value.Num
		if d.Value.Kind != api.Number || n != math.Trunc(n) || n < 0 || n > 4294967295 {
			return api.ErrRange
		}
		if n == 0 {
			d.Value.Num = 0
		}
	}
	return nil
}

func sameValue(v, w api.Value) bool { return sameDesc(api.Desc{Value: v}, api.Desc{Value: w}) }

func mayNot(p *prop, d api.Desc) bool {
	if p.c {
		return false
	}
	if d.HasConfigurable && d.Configurable || d.HasEnumerable && d.Enumerable != p.e {
		return true
	}
	if (d.HasGet || d.HasSet) && !p.functions || (d.HasValue || d.HasWritable) && p.functions {
		return true
	}
	if d.HasGet && d.Get != p.get || d.HasSet && d.Set != p.set {
		return true
	}
	return !p.functions && !p.w && (d.HasWritable && d.Writable || d.HasValue && !sameValue(d.Value, p.value))
}

func become(p *prop, d api.Desc) {
	if (d.HasGet || d.HasSet) && !p.functions || (d.HasValue || d.HasWritable) && p.functions {
		*p = prop{key: p.key, functions: !p.functions, e: p.e, c: p.c}
	}
	if d.HasValue {
		p.value = d.Value
	}
	if d.HasGet {
		p.get = d.Get
	}
	if d.HasSet {
		p.set = d.Set
	}
	if d.HasWritable {
		p.w = d.Writable
	}
	if d.HasEnumerable {
		p.e = d.Enumerable
	}
	if d.HasConfigurable {
		p.c = d.Configurable
	}
}

func stepOf(p *prop) step { return step{key: p.key, w: p.w, e: p.e, c: p.c, isFuncs: p.functions} }

func (m model) define(r int, key string, d api.Desc) error {
	o := m[r]
	if o == nil {
		return api.ErrType
	}
	key = clean(key)
	if err := m.wrong(o, key, &d); err != nil {
		return err
	}
	place, isPlace := placeNumber(key)
	p := o.find(key)
	if p == nil {
		if o.fixed {
			return api.ErrType
		}
		if o.class == "Array" && isPlace {
			if l := o.find("length"); place >= l.value.Num {
				if !l.w {
					return api.ErrType
				}
				l.value.Num = place + 1
			}
		}
		fresh := prop{key: key}
		become(&fresh, d)
		o.props = append(o.props, fresh)
		if !isPlace {
			o.steps = append(o.steps, stepOf(&fresh))
		}
		return nil
	}
	if mayNot(p, d) {
		return api.ErrType
	}
	was := *p
	become(p, d)
	if !isPlace && stepOf(&was) != stepOf(p) {
		o.apart = true
	}
	if o.class == "Array" && key == "length" && p.value.Num < was.value.Num {
		return o.cut(p.value.Num)
	}
	return nil
}

func (o *thing) cut(n float64) error {
	for _, key := range slices.Backward(o.keys()) {
		place, isPlace := placeNumber(key)
		if !isPlace || place < n {
			continue
		}
		if !o.find(key).c {
			o.find("length").value.Num = place + 1
			return api.ErrType
		}
		o.props = slices.DeleteFunc(o.props, func(p prop) bool { return p.key == key })
	}
	return nil
}

func (o *thing) keys() []string {
	var places, others []string
	for _, p := range o.props {
		if _, ok := placeNumber(p.key); ok {
			places = append(places, p.key)
		} else {
			others = append(others, p.key)
		}
	}
	slices.SortFunc(places, func(a, b string) int {
		x, _ := placeNumber(a)
		y, _ := placeNumber(b)
		return cmp.Compare(x, y)
	})
	return append(places, others...)
}

func (m model) delete(r int, key string) error {
	o := m[r]
	if o == nil {
		return api.ErrType
	}
	key = clean(key)
	p := o.find(key)
	if p == nil {
		return nil
	}
	if !p.c {
		return api.ErrType
	}
	o.props = slices.DeleteFunc(o.props, func(p prop) bool { return p.key == key })
	if _, isPlace := placeNumber(key); !isPlace {
		o.apart = true
	}
	return nil
}

func (m model) own(r int, key string) (api.Desc, bool) {
	o := m[r]
	if o == nil {
		return api.Desc{}, false
	}
	p := o.find(clean(key))
	if p == nil {
		return api.Desc{}, false
	}
	d := api.Desc{HasEnumerable: true, Enumerable: p.e, HasConfigurable: true, Configurable: p.c}
	if p.functions {
		d.HasGet, d.HasSet, d.Get, d.Set = true, true, p.get, p.set
	} else {
		d.HasValue, d.HasWritable, d.Value, d.Writable = true, true, p.value, p.w
	}
	return d, true
}

func (m model) findIn(r int, key string) (api.Desc, int, bool) {
	for m[r] != nil {
		if d, has := m.own(r, key); has {
			return d, r, true
		}
		r = m[r].proto
	}
	return api.Desc{}, 0, false
}

func (m model) same(r, q int) bool {
	return m[r] != nil && m[q] != nil && !m[r].apart && !m[q].apart && slices.Equal(m[r].steps, m[q].steps)
}

func (m model) reach(r int, met map[int]bool) {
	if m[r] == nil || met[r] {
		return
	}
	met[r] = true
	m.reach(m[r].proto, met)
	for _, p := range m[r].props {
		m.reach(p.get, met)
		m.reach(p.set, met)
		if p.value.Kind == api.Object {
			m.reach(p.value.Ref, met)
		}
	}
}

func (m model) collect(roots []int) int {
	met := map[int]bool{}
	for _, r := range roots {
		m.reach(r, met)
	}
	gone := 0
	for r := range m {
		if !met[r] {
			delete(m, r)
			gone++
		}
	}
	return gone
}

// player plays the same calls on the heap and on the model.
type player struct {
	*testing.T
	*rand.Rand
	heap  *Heap
	model model
	ever  []int // all numbers that were handed out
}

func (p *player) key() string {
	keys := []string{"a", "b", "c", "", "length", "0", "1", "2", "3", "4", "5", "6", "11", "4294967293", "4294967294", "4294967295", "01", "\xff", "\ufffd", "\xed\xa0\xbd\xed\xb8\x80", "\U0001F600"}
	if p.Intn(3) > 0 { // most of the time few, so that they meet
		return keys[p.Intn(9)]
	}
	return keys[p.Intn(len(keys))]
}

func (p *player) ref() int {
	if len(p.ever) == 0 || p.Intn(20) == 0 {
		return []int{0, -1, 1 << 40, math.MinInt}[p.Intn(4)]
	}
	return p.ever[len(p.ever)-1-p.Intn(min(len(p.ever), 8))]
}

func (p *player) value() api.Value {
	nums := []float64{0, math.Copysign(0, -1), 1, 2, 3, 4, 0.5, -1, math.NaN(), math.Inf(1), 4294967295, 4294967296}
	v := api.Value{Kind: p.Intn(6), Num: nums[p.Intn(len(nums))], Text: p.key(), Ref: p.ref()}
	switch p.Intn(30) {
	case 0:
		v.Kind = []int{-1, 6}[p.Intn(2)]
	case 1, 2, 3, 4, 5:
		v.Kind = api.Number
	}
	return v
}

func (p *player) coin() bool { return p.Intn(2) == 0 }

func (p *player) desc() api.Desc {
	d := api.Desc{HasWritable: p.coin(), HasEnumerable: p.coin(), HasConfigurable: p.coin(), Value: p.value(), Get: p.ref(), Set: p.ref()}
	d.Writable, d.Enumerable, d.Configurable = p.Intn(4) > 0, p.Intn(4) > 0, p.Intn(4) > 0
	switch p.Intn(10) {
	case 0:
		d.HasGet, d.HasSet = p.coin(), p.coin()
		d.HasWritable = p.Intn(8) == 0
	case 1:
		d.HasGet, d.HasSet, d.HasValue = p.coin(), p.coin(), p.coin()
	case 2, 3, 4:
		d.HasValue, d.HasWritable, d.HasEnumerable, d.HasConfigurable = true, true, true, true
		d.Writable, d.Enumerable, d.Configurable = true, true, true
	default:
		d.HasValue = p.Intn(4) > 0
	}
	return d
}

func (p *player) makeOne() {
	class, proto := []string{"Object", "Array", "Function"}[p.Intn(3)], 0
	if p.coin() {
		proto = p.ref()
	}
	r, err := p.heap.Make(class, proto)
	if proto != 0 && p.model[proto] == nil {
		if r != 0 || err != api.ErrType {
			p.Fatalf("Make behind %d: %d, %v", proto, r, err)
		}
		return
	}
	if err != nil || r <= 0 || p.model[r] != nil {
		p.Fatalf("Make(%q, %d) = %d, %v", class, proto, r, err)
	}
	p.model.make(r, class, proto)
	p.ever = append(p.ever, r)
}

func (p *player) move() {
	r, key := p.ref(), p.key()
	var got, want error
	switch p.Intn(16) {
	case 0:
		p.makeOne()
	case 1, 2, 3:
		got, want = p.heap.Delete(r, key), p.model.delete(r, key)
	case 4:
		if p.Intn(10) == 0 {
			got = p.heap.Fix(r)
			if o := p.model[r]; o != nil {
				o.fixed = true
			} else {
				want = api.ErrType
			}
		}
	case 5:
		if p.Intn(10) == 0 {
			roots := []int{p.ref(), p.ref(), p.ref()}
			if n, m := p.heap.Collect(roots), p.model.collect(roots); n != m {
				p.Fatalf("Collect = %d, want %d", n, m)
			}
		}
	case 6:
		d := told(number(float64(p.Intn(7))))
		d.HasWritable = p.Intn(20) == 0
		got, want = p.heap.Define(r, "length", d), p.model.define(r, "length", d)
	default:
		d := p.desc()
		got, want = p.heap.Define(r, key, d), p.model.define(r, key, d)
	}
	if got != want && !errors.Is(got, want) {
		p.Fatalf("of %d, %q: %v, want %v", r, key, got, want)
	}
}

func (p *player) compare() {
	if p.heap.Live() != len(p.model) {
		p.Fatalf("Live = %d, want %d", p.heap.Live(), len(p.model))
	}
	for _, r := range p.ever {
		o := p.model[r]
		if p.heap.Has(r) != (o != nil) || p.heap.Fixed(r) != (o != nil && o.fixed) {
			p.Fatalf("Has(%d), Fixed(%d)", r, r)
		}
		if o == nil {
			continue
		}
		if l := p.heap.Keys(r); !slices.Equal(l, o.keys()) {
			p.Fatalf("Keys(%d) = %q, want %q", r, l, o.keys())
		}
		for _, key := range append(o.keys(), p.key(), p.key()) {
			d, has := p.heap.Own(r, key)
			e, want := p.model.own(r, key)
			if has != want || !sameDesc(d, e) {
				p.Fatalf("Own(%d, %q) = %+v, %v; want %+v", r, key, d, has, e)
			}
			d, who, has := p.heap.Find(r, key)
			e, whose, want := p.model.findIn(r, key)
			if who != whose || has != want || !sameDesc(d, e) {
				p.Fatalf("Find(%d, %q) = %+v, %d, %v; want %+v, %d", r, key, d, who, has, e, whose)
			}
		}
		for _, q := range p.ever {
			if p.heap.Same(r, q) != p.model.same(r, q) {
				p.Fatalf("Same(%d, %d) = %v", r, q, p.heap.Same(r, q))
			}
		}
	}
}

// P60 to P67: any calls, one behind the other.
func TestModel(t *testing.T) {
	for seed := range int64(600) {
		p := &player{T: t, Rand: rand.New(rand.NewSource(seed)), heap: New(), model: model{}}
		for range 3 {
			p.makeOne()
		}
		for i := range 250 {
			p.move()
			if i%10 == 9 {
				p.compare()
			}
		}
		if t.Failed() {
			t.Fatalf("seed %d", seed)
		}
	}
}

// P2: heaps know nothing of each other, and the same calls have the same answers.
func TestHeapsApart(t *testing.T) {
	first, second := New(), New()
	other := New()
	for i := range 50 {
		a, _ := first.Make("Array", 0)
		o, _ := other.Make("Object", 0)
		if err := other.Define(o, strconv.Itoa(i)+"x", all(number(1))); err != nil {
			t.Fatal(err)
		}
		b, _ := second.Make("Array", 0)
		if a != b {
			t.Fatalf("Make = %d and %d", a, b)
		}
		if i%7 == 0 {
			other.Collect(nil)
		}
	}
	if first.Live() != 50 || second.Live() != 50 {
		t.Error("a Collect of another heap took objects away")
	}
}
