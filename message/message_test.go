package message_test

import (
	"bytes"
	"encoding/binary"
	"encoding/hex"
	"math"
	"math/rand/v2"
	"reflect"
	"regexp"
	"slices"
	"strings"
	"sync"
	"testing"

	"postroad/api"
	"postroad/message"
)

// The tests hold each answer against a table of what each Kind has, a letter a
// part, against bounds of each number, and against bytes that are laid by
// encoding/binary and read by where the letters of their objects match.

const (
	most    = math.MaxInt64
	least   = math.MinInt64
	million = 1000000
)

// source is the same in each run.
func source() *rand.Rand { return rand.New(rand.NewPCG(8, 1)) }

// letters tells what a Kind has: s a session, h a hop, p a period, f a fault, t
// who is to be told, y a style, w wishes and their filters, x a sender, c a
// spec, m terms. What is in brackets may stand there.
func letters(kind api.RsvpKind) string {
	switch kind {
	case 1:
		return "shpxcm"
	case 2:
		return "shp(t)yw"
	case 3:
		return "sfxc"
	case 4:
		return "shfyw"
	case 5:
		return "shx"
	case 6:
		return "shyw"
	case 7:
		return "sftyw"
	}
	return ""
}

func has(kind api.RsvpKind, letter string) bool { return strings.Contains(letters(kind), letter) }

func is(low, n, high int64) bool { return low <= n && n <= high }

func isSender(x api.Sender) bool { return is(0, x.Node, 15) && is(1, x.Port, 65535) }

func isSpec(s api.Spec) bool {
	return is(1, s.Rate, s.Peak) && s.Peak <= million && is(1, s.Least, s.Most) && s.Most <= 2000 && is(s.Most, s.Burst, 10*million)
}

func isFlow(x api.Flow) bool {
	return isSpec(x.Spec) && is(x.Spec.Rate, x.R, million) && is(0, x.Slack, million)
}

// number is a Sender as one number, in the order of Senders.
func number(x api.Sender) int64 { return x.Node*100000 + x.Port }

func areWishes(style api.Style, l []api.Wish) bool {
	var all []api.Sender
	for _, w := range l {
		if !isFlow(w.Flow) {
			return false
		}
		all = append(all, w.Senders...)
	}
	for i, x := range all {
		if !isSender(x) || i > 0 && number(all[i-1]) >= number(x) {
			return false
		}
	}
	isOne := func(w api.Wish) bool { return len(w.Senders) == 1 }
	switch style {
	case 1:
		return is(1, int64(len(l)), 8) && len(all) == len(l) && slices.IndexFunc(l, isOne) == 0 && !slices.ContainsFunc(l, func(w api.Wish) bool { return !isOne(w) })
	case 2:
		return len(l) == 1 && is(1, int64(len(all)), 8)
	case 3:
		return len(l) == 1 && len(all) == 0
	}
	return false
}

// may reckons whether a message may be.
func may(m api.Rsvp) bool {
	k := m.Kind
	if letters(k) == "" || m.Ttl < 0 || m.Ttl > 255 {
		return false
	}
	fine := is(0, m.Session.Node, 15) && is(1, m.Session.Port, 65535)
	part := func(letter string, isZero, isRight bool) {
		fine = fine && (has(k, letter) && isRight || !has(k, letter) && isZero)
	}
	part("h", m.Hop == api.Hop{}, is(0, m.Hop.Node, 15) && is(0, m.Hop.Link, 47))
	part("p", m.Period == 0, is(1, m.Period, million))
	part("f", m.Fault == api.Fault{}, is(0, m.Fault.Node, 15) && is(0, m.Fault.Code, 255) && is(0, m.Fault.Value, 65535))
	noTell := !m.HasTell && m.Tell == 0
	part("t", noTell, m.HasTell && is(0, m.Tell, 15) || has(k, "(t)") && noTell)
	part("y", m.Style == 0, is(1, int64(m.Style), 3))
	part("w", len(m.Wishes) == 0, areWishes(m.Style, m.Wishes))
	part("x", m.Sender == api.Sender{}, isSender(m.Sender))
	part("c", m.Spec == api.Spec{}, isSpec(m.Spec))
	part("m", m.Terms == api.Terms{}, is(0, m.Terms.C, 10*million) && is(0, m.Terms.D, million))
	return fine
}

// piece is an object, by its letter (of a filter: g).
type piece struct {
	letter string
	words  []int64
}

// form is what a letter's objects are like: their Class, their Type, how many
// words they have.
type form struct {
	head  [2]byte
	words int
}

var objectForms = map[string]form{
	"s": {[2]byte{1, 1}, 2}, "h": {[2]byte{3, 1}, 2}, "p": {[2]byte{5, 1}, 1}, "f": {[2]byte{6, 1}, 2},
	"t": {[2]byte{15, 1}, 1}, "y": {[2]byte{8, 1}, 1}, "w": {[2]byte{9, 2}, 7}, "g": {[2]byte{10, 1}, 2},
	"x": {[2]byte{11, 1}, 2}, "c": {[2]byte{12, 2}, 5}, "m": {[2]byte{13, 2}, 2},
}

func specWords(s api.Spec) []int64 { return []int64{s.Rate, s.Burst, s.Peak, s.Least, s.Most} }

func flowWords(x api.Flow) []int64 { return append(specWords(x.Spec), x.R, x.Slack) }

func styleWord(s api.Style) int64 { return []int64{0, 10, 18, 17}[s] }

// pieces reckons the objects of a message.
func pieces(m api.Rsvp) []piece {
	var out []piece
	lay := func(letter string, words ...int64) { out = append(out, piece{letter, words}) }
	for _, letter := range strings.Split(letters(m.Kind), "") {
		switch letter {
		case "s":
			lay("s", m.Session.Node, 17<<24+m.Session.Port)
		case "h":
			lay("h", m.Hop.Node, m.Hop.Link)
		case "p":
			lay("p", m.Period)
		case "f":
			lay("f", m.Fault.Node, m.Fault.Code*65536+m.Fault.Value)
		case "t":
			if m.HasTell {
				lay("t", m.Tell)
			}
		case "y":
			lay("y", styleWord(m.Style))
		case "w":
			for _, w := range m.Wishes {
				lay("w", flowWords(w.Flow)...)
				for _, x := range w.Senders {
					lay("g", x.Node, x.Port)
				}
			}
		case "x":
			lay("x", m.Sender.Node, m.Sender.Port)
		case "c":
			lay("c", specWords(m.Spec)...)
		case "m":
			lay("m", m.Terms.C, m.Terms.D)
		}
	}
	return out
}

// bodyOf reckons the bytes of objects.
func bodyOf(l []piece) []byte {
	var out []byte
	for _, p := range l {
		head := objectForms[p.letter].head
		out = binary.BigEndian.AppendUint16(out, uint16(4+4*len(p.words)))
		out = append(out, head[:]...)
		for _, w := range p.words {
			out = binary.BigEndian.AppendUint32(out, uint32(w))
		}
	}
	return out
}

// rest tells what is left of bytes as one long number, by the measure 65535.
func rest(b []byte) (n int) {
	for i, x := range b {
		n += int(x) << (8 * (1 - i%2))
	}
	return n % 65535
}

// seal lays the sum in: it stands for what is missing to a multiple of 65535.
func seal(b []byte) []byte {
	b[2], b[3] = 0, 0
	s := 65535 - rest(b)
	if s == 65535 && !slices.Equal(b, make([]byte, len(b))) {
		s = 0 // all of it is full: nothing is missing
	}
	binary.BigEndian.PutUint16(b[2:], uint16(s))
	return b
}

// isSealed tells whether the sum stands there.
func isSealed(b []byte) bool { return bytes.Equal(seal(slices.Clone(b)), b) }

func framed(kind, ttl byte, body []byte) []byte {
	out := []byte{16, kind, 0, 0, ttl, 0}
	out = binary.BigEndian.AppendUint16(out, uint16(8+len(body)))
	return seal(append(out, body...))
}

// bytesOf reckons the bytes of a message that may be.
func bytesOf(m api.Rsvp) []byte { return framed(byte(m.Kind), byte(m.Ttl), bodyOf(pieces(m))) }

// piecesOf reckons the objects of bytes, those that no letter has as "?".
func piecesOf(b []byte) (l []piece, fine bool) {
	for len(b) > 0 {
		if len(b) < 8 {
			return nil, false
		}
		n := int(binary.BigEndian.Uint16(b))
		if n < 8 || n%4 != 0 || n > len(b) || n > 260 {
			return nil, false
		}
		p := piece{letter: "?"}
		for letter, f := range objectForms {
			if f.head == [2]byte(b[2:4]) && n == 4+4*f.words {
				p.letter = letter
			}
		}
		for at := 4; at < n; at += 4 {
			p.words = append(p.words, int64(binary.BigEndian.Uint32(b[at:])))
		}
		l, b = append(l, p), b[n:]
	}
	return l, true
}

func specOf(w []int64) api.Spec {
	return api.Spec{Rate: w[0], Burst: w[1], Peak: w[2], Least: w[3], Most: w[4]}
}

// put lays what an object says into a message.
func put(m *api.Rsvp, p piece) {
	w := p.words
	switch p.letter {
	case "s":
		m.Session = api.Session{Node: w[0], Port: w[1] - 17<<24}
	case "h":
		m.Hop = api.Hop{Node: w[0], Link: w[1]}
	case "p":
		m.Period = w[0]
	case "f":
		m.Fault = api.Fault{Node: w[0], Code: w[1] / 65536, Value: w[1] % 65536}
	case "t":
		m.HasTell, m.Tell = true, w[0]
	case "y":
		m.Style = api.Style(slices.Index([]int64{0, 10, 18, 17}, w[0]))
	case "w":
		m.Wishes = append(m.Wishes, api.Wish{Flow: api.Flow{Spec: specOf(w), R: w[5], Slack: w[6]}})
	case "g":
		last := &m.Wishes[len(m.Wishes)-1]
		last.Senders = append(last.Senders, api.Sender{Node: w[0], Port: w[1]})
	case "x":
		m.Sender = api.Sender{Node: w[0], Port: w[1]}
	case "c":
		m.Spec = specOf(w)
	case "m":
		m.Terms = api.Terms{C: w[0], D: w[1]}
	}
}

// bodyForms are what the letters of a Kind's objects are, one behind the other.
var bodyForms = sync.OnceValue(func() map[api.RsvpKind]*regexp.Regexp {
	out := map[api.RsvpKind]*regexp.Regexp{}
	for _, k := range kinds() {
		text := strings.NewReplacer("(t)", "t?", "w", "(wg*)*").Replace(letters(k))
		out[k] = regexp.MustCompile("^" + text + "$")
	}
	return out
})

// messageOf reckons the message of bytes, or what is wrong with them.
func messageOf(b []byte) (api.Rsvp, api.Errno) {
	if len(b) < 8 {
		return api.Rsvp{}, api.ErrRsvp
	}
	if !isSealed(b) {
		return api.Rsvp{}, api.ErrSum
	}
	m := api.Rsvp{Kind: api.RsvpKind(b[1]), Ttl: int(b[4])}
	l, fine := piecesOf(b[8:])
	if !fine || b[0] != 16 || b[5] != 0 || len(b) != int(binary.BigEndian.Uint16(b[6:])) || letters(m.Kind) == "" {
		return api.Rsvp{}, api.ErrRsvp
	}
	var seen string
	for _, p := range l {
		seen += p.letter
	}
	if !bodyForms()[m.Kind].MatchString(seen) {
		return api.Rsvp{}, api.ErrRsvp
	}
	for _, p := range l {
		put(&m, p)
	}
	if !may(m) {
		return api.Rsvp{}, api.ErrRsvp
	}
	return m, api.OK
}

func from(r *rand.Rand, low, high int64) int64 {
	switch r.IntN(4) {
	case 0:
		return low
	case 1:
		return high
	}
	return low + r.Int64N(high-low+1)
}

func someSender(r *rand.Rand) api.Sender {
	return api.Sender{Node: from(r, 0, 15), Port: from(r, 1, 65535)}
}

func someSpec(r *rand.Rand) api.Spec {
	rate, size := from(r, 1, million), from(r, 1, 2000)
	return api.Spec{Peak: from(r, rate, million), Rate: rate, Burst: from(r, size, 10*million), Most: size, Least: from(r, 1, size)}
}

func someFlow(r *rand.Rand) api.Flow {
	s := someSpec(r)
	return api.Flow{Spec: s, R: from(r, s.Rate, million), Slack: from(r, 0, million)}
}

// someSenders tells so many that rise.
func someSenders(r *rand.Rand, n int) []api.Sender {
	var out []api.Sender
	for len(out) < n {
		if x := someSender(r); !slices.Contains(out, x) {
			out = append(out, x)
		}
	}
	slices.SortFunc(out, func(a, b api.Sender) int { return int(number(a) - number(b)) })
	return out
}

// someWishes tells wishes of a style that may be: of StyleFixed so many of
// them, of StyleShared one with so many Senders.
func someWishes(r *rand.Rand, style api.Style, n int) []api.Wish {
	switch style {
	case api.StyleFixed:
		var out []api.Wish
		for _, x := range someSenders(r, n) {
			out = append(out, api.Wish{Flow: someFlow(r), Senders: []api.Sender{x}})
		}
		return out
	case api.StyleShared:
		return []api.Wish{{Flow: someFlow(r), Senders: someSenders(r, n)}}
	}
	return []api.Wish{{Flow: someFlow(r)}}
}

// some tells a message of a Kind, that may be.
func some(r *rand.Rand, kind api.RsvpKind) api.Rsvp {
	m := api.Rsvp{Kind: kind, Ttl: int(from(r, 0, 255)), Session: api.Session(someSender(r))}
	for _, letter := range strings.Split(letters(kind), "") {
		switch letter {
		case "h":
			m.Hop = api.Hop{Node: from(r, 0, 15), Link: from(r, 0, 47)}
		case "p":
			m.Period = from(r, 1, million)
		case "f":
			m.Fault = api.Fault{Node: from(r, 0, 15), Code: from(r, 0, 255), Value: from(r, 0, 65535)}
		case "t":
			if m.HasTell = kind == api.RsvpConf || r.IntN(2) == 0; m.HasTell {
				m.Tell = from(r, 0, 15)
			}
		case "y":
			m.Style = api.Style(1 + r.IntN(3))
		case "w":
			m.Wishes = someWishes(r, m.Style, int(from(r, 1, 8)))
		case "x":
			m.Sender = someSender(r)
		case "c":
			m.Spec = someSpec(r)
		case "m":
			m.Terms = api.Terms{C: from(r, 0, 10*million), D: from(r, 0, million)}
		}
	}
	return m
}

func kinds() []api.RsvpKind { return []api.RsvpKind{1, 2, 3, 4, 5, 6, 7} }

func cloned(m api.Rsvp) api.Rsvp {
	m.Wishes = slices.Clone(m.Wishes)
	for i := range m.Wishes {
		m.Wishes[i].Senders = slices.Clone(m.Wishes[i].Senders)
	}
	return m
}

// isLike holds two messages against each other; nil and empty are the same.
func isLike(a, b api.Rsvp) bool {
	isSame := slices.EqualFunc(a.Wishes, b.Wishes, func(x, y api.Wish) bool {
		return x.Flow == y.Flow && slices.Equal(x.Senders, y.Senders)
	})
	a.Wishes, b.Wishes = nil, nil
	return isSame && reflect.DeepEqual(a, b)
}

// asks fails unless Check, Raw and Parse answer of a message what they must.
func asks(t *testing.T, m api.Rsvp) bool {
	t.Helper()
	was := cloned(m)
	e := message.Check(m)
	b, rawE := message.Raw(m)
	if !isLike(m, was) {
		t.Fatalf("%+v is changed to %+v", was, m)
	}
	if !may(m) {
		if e != api.ErrArg || rawE != api.ErrArg || b != nil {
			t.Fatalf("%+v: Check %v, Raw % x, %v; must be ErrArg", m, e, b, rawE)
		}
		return false
	}
	if e != api.OK || rawE != api.OK || !bytes.Equal(b, bytesOf(m)) {
		t.Fatalf("%+v: Check %v, Raw % x, %v; must be % x", m, e, b, rawE, bytesOf(m))
	}
	if got, e := message.Parse(b); e != api.OK || !isLike(got, m) || !message.Same(got, m) {
		t.Fatalf("Parse % x: %+v, %v; must be %+v", b, got, e, m)
	}
	return true
}

// parses fails unless Parse answers of bytes what it must.
func parses(t *testing.T, b []byte) api.Errno {
	t.Helper()
	want, wantE := messageOf(b)
	got, e := message.Parse(b)
	if e != wantE || !isLike(got, want) || e != api.OK && !reflect.DeepEqual(got, api.Rsvp{}) {
		t.Fatalf("Parse of %d, % x: %+v, %v; must be %+v, %v", len(b), b[:min(len(b), 500)], got, e, want, wantE)
	}
	if e == api.OK {
		if raw, e := message.Raw(got); e != api.OK || !bytes.Equal(raw, b) {
			t.Fatalf("Raw of Parse % x: % x, %v", b, raw, e)
		}
	}
	return e
}

func unhex(t *testing.T, text string) []byte {
	t.Helper()
	b, err := hex.DecodeString(strings.ReplaceAll(text, " ", ""))
	if err != nil {
		t.Fatal(err)
	}
	return b
}

func aFlow() api.Flow {
	return api.Flow{Spec: api.Spec{Peak: 10, Rate: 2, Burst: 20, Most: 8, Least: 1}, R: 4, Slack: 6}
}

func aWish(ports ...int64) api.Wish {
	w := api.Wish{Flow: aFlow()}
	for _, p := range ports {
		w.Senders = append(w.Senders, api.Sender{Node: 0, Port: p})
	}
	return w
}

// P8.1: Check

func TestExamples(t *testing.T) {
	tear := api.Rsvp{Kind: api.RsvpPathTear, Ttl: 9, Session: api.Session{Node: 2, Port: 5}, Hop: api.Hop{Node: 1, Link: 3}, Sender: api.Sender{Node: 0, Port: 7}}
	b, e := message.Raw(tear)
	if e != api.OK || len(b) != 44 || b[0] != 0x10 || b[1] != 5 {
		t.Fatalf("Raw: % x, %v", b, e)
	}
	b[43] ^= 1
	if m, e := message.Parse(b); e != api.ErrSum || !isLike(m, api.Rsvp{}) {
		t.Errorf("Parse of that with its last byte turned: %+v, %v", m, e)
	}
	b[43] ^= 1 ^ 0xff
	if m, e := message.Parse(b); e != api.ErrSum || !isLike(m, api.Rsvp{}) {
		t.Errorf("Parse of that with all of its last byte turned: %+v, %v", m, e)
	}
	if m, e := message.Parse(nil); e != api.ErrRsvp || !isLike(m, api.Rsvp{}) {
		t.Errorf("Parse of none: %+v, %v", m, e)
	}
	resv := api.Rsvp{Kind: api.RsvpResv, Session: tear.Session, Hop: tear.Hop, Period: 4, Style: api.StyleAny, Wishes: []api.Wish{aWish(7)}}
	if e := message.Check(resv); e != api.ErrArg {
		t.Errorf("Check of StyleAny with a Sender: %v", e)
	}
	resv.Wishes[0].Senders = nil
	if e := message.Check(resv); e != api.OK {
		t.Errorf("Check of StyleAny: %v", e)
	}
}

func TestSome(t *testing.T) {
	r := source()
	for _, k := range kinds() {
		for range 1500 {
			if m := some(r, k); !asks(t, m) {
				t.Fatalf("%+v must be", m)
			}
		}
	}
}

// change is another number somewhere in a message.
type change func(m *api.Rsvp)

// changesOf tells a number's edges, and those beyond.
func changesOf(low, high int64, place func(m *api.Rsvp) *int64) []change {
	var out []change
	for _, n := range []int64{low, low + 1, high - 1, high, low - 1, high + 1, -1, 0, 1, 1 << 8, 1 << 16, 1 << 24, 1 << 32, 1<<32 + low, 1<<32 + high, 1<<62 + 1, most, least, least + 1} {
		out = append(out, func(m *api.Rsvp) { *place(m) = n })
	}
	return out
}

// flowChanges tells those of a wish, of one that is there.
func flowChanges(at int) []change {
	flow := func(m *api.Rsvp) *api.Flow { return &m.Wishes[at%len(m.Wishes)].Flow }
	return slices.Concat(
		changesOf(1, million, func(m *api.Rsvp) *int64 { return &flow(m).R }),
		changesOf(0, million, func(m *api.Rsvp) *int64 { return &flow(m).Slack }),
		specChanges(func(m *api.Rsvp) *api.Spec { return &flow(m).Spec }))
}

func specChanges(spec func(m *api.Rsvp) *api.Spec) []change {
	return slices.Concat(
		changesOf(1, million, func(m *api.Rsvp) *int64 { return &spec(m).Peak }),
		changesOf(1, million, func(m *api.Rsvp) *int64 { return &spec(m).Rate }),
		changesOf(1, 10*million, func(m *api.Rsvp) *int64 { return &spec(m).Burst }),
		changesOf(1, 2000, func(m *api.Rsvp) *int64 { return &spec(m).Most }),
		changesOf(1, 2000, func(m *api.Rsvp) *int64 { return &spec(m).Least }))
}

// plainChanges tells those that can be made in each message: so they also put
// into it what its Kind does not have.
func plainChanges() []change {
	out := slices.Concat(
		changesOf(0, 15, func(m *api.Rsvp) *int64 { return &m.Session.Node }),
		changesOf(1, 65535, func(m *api.Rsvp) *int64 { return &m.Session.Port }),
		changesOf(0, 15, func(m *api.Rsvp) *int64 { return &m.Hop.Node }),
		changesOf(0, 47, func(m *api.Rsvp) *int64 { return &m.Hop.Link }),
		changesOf(1, million, func(m *api.Rsvp) *int64 { return &m.Period }),
		changesOf(0, 15, func(m *api.Rsvp) *int64 { return &m.Fault.Node }),
		changesOf(0, 255, func(m *api.Rsvp) *int64 { return &m.Fault.Code }),
		changesOf(0, 65535, func(m *api.Rsvp) *int64 { return &m.Fault.Value }),
		changesOf(0, 15, func(m *api.Rsvp) *int64 { return &m.Sender.Node }),
		changesOf(1, 65535, func(m *api.Rsvp) *int64 { return &m.Sender.Port }),
		specChanges(func(m *api.Rsvp) *api.Spec { return &m.Spec }),
		changesOf(0, 10*million, func(m *api.Rsvp) *int64 { return &m.Terms.C }),
		changesOf(0, million, func(m *api.Rsvp) *int64 { return &m.Terms.D }),
		changesOf(0, 15, func(m *api.Rsvp) *int64 { return &m.Tell }))
	for _, n := range []int{-1, 0, 1, 254, 255, 256, 257, 1 << 16, 1 << 32, 1<<32 + 9, most, least} {
		out = append(out, func(m *api.Rsvp) { m.Ttl = n })
	}
	for _, n := range []api.RsvpKind{-1, 0, 1, 2, 3, 4, 5, 6, 7, 8, 9, 255, 256, 257, 261, 1<<32 + 5, most, least} {
		out = append(out, func(m *api.Rsvp) { m.Kind = n })
	}
	for _, n := range []api.Style{-1, 0, 1, 2, 3, 4, 10, 17, 18, 1<<32 + 1, most, least} {
		out = append(out, func(m *api.Rsvp) { m.Style = n })
	}
	return append(out,
		func(m *api.Rsvp) { m.HasTell = !m.HasTell },
		func(m *api.Rsvp) { m.HasTell, m.Tell = !m.HasTell, 0 },
		func(m *api.Rsvp) { m.HasTell, m.Tell = true, 3 },
		func(m *api.Rsvp) { m.HasTell, m.Tell = false, 3 },
		func(m *api.Rsvp) { m.Hop = api.Hop{} },
		func(m *api.Rsvp) { m.Hop = api.Hop{Node: 1, Link: 2} },
		func(m *api.Rsvp) { m.Period = 7 },
		func(m *api.Rsvp) { m.Fault = api.Fault{Node: 1, Code: 2, Value: 3} },
		func(m *api.Rsvp) { m.Sender = api.Sender{Node: 1, Port: 2} },
		func(m *api.Rsvp) { m.Spec = aFlow().Spec },
		func(m *api.Rsvp) { m.Spec = api.Spec{} },
		func(m *api.Rsvp) { m.Terms = api.Terms{C: 1, D: 2} },
		func(m *api.Rsvp) { m.Style, m.Wishes = 0, nil },
		func(m *api.Rsvp) { m.Style, m.Wishes = 0, []api.Wish{} },
		func(m *api.Rsvp) { m.Style, m.Wishes = 0, []api.Wish{{}} },
		func(m *api.Rsvp) { m.Style, m.Wishes = api.StyleAny, []api.Wish{aWish()} },
		func(m *api.Rsvp) { m.Style, m.Wishes = 0, []api.Wish{aWish()} },
		func(m *api.Rsvp) { *m = api.Rsvp{Kind: m.Kind} },
		func(m *api.Rsvp) { *m = api.Rsvp{Kind: m.Kind, Session: m.Session} })
}

func TestEdges(t *testing.T) {
	r := source()
	for _, k := range kinds() {
		fine, wrong := 0, 0
		for range 20 {
			m := some(r, k)
			all := plainChanges()
			if has(k, "w") {
				all = append(all, flowChanges(r.IntN(8))...)
			}
			for _, turn := range all {
				other := cloned(m)
				turn(&other)
				if asks(t, other) {
					fine++
				} else {
					wrong++
				}
			}
		}
		if fine < 500 || wrong < 2000 {
			t.Errorf("Kind %d: seen: %d fine, %d wrong", k, fine, wrong)
		}
	}
}

// What each Kind must be there is there: without any one of its parts it may
// not be, but for who may be told.
func TestPartsAreThere(t *testing.T) {
	without := map[string]change{
		"s": func(m *api.Rsvp) { m.Session = api.Session{} },
		"p": func(m *api.Rsvp) { m.Period = 0 },
		"t": func(m *api.Rsvp) { m.HasTell, m.Tell = false, 0 },
		"y": func(m *api.Rsvp) { m.Style = 0 },
		"w": func(m *api.Rsvp) { m.Wishes = nil },
		"x": func(m *api.Rsvp) { m.Sender = api.Sender{} },
		"c": func(m *api.Rsvp) { m.Spec = api.Spec{} },
	}
	r := source()
	for _, k := range kinds() {
		for letter, drop := range without {
			m := some(r, k)
			drop(&m)
			want := api.OK
			if has(k, letter) && !has(k, "("+letter+")") {
				want = api.ErrArg
			}
			if e := message.Check(m); e != want {
				t.Errorf("Check of Kind %d without %s, %+v: %v; must be %v", k, letter, m, e, want)
			}
		}
	}
}

// Wishes of each style, of all numbers of wishes and of Senders.
func TestWishesOfStyles(t *testing.T) {
	r := source()
	fine := 0
	for _, k := range kinds() {
		m := some(r, k)
		for m.Style = -1; m.Style < 5; m.Style++ {
			for n := range 12 {
				for senders := range 11 {
					m.Wishes = nil
					l := someSenders(r, 110)
					for range n {
						m.Wishes = append(m.Wishes, api.Wish{Flow: someFlow(r), Senders: slices.Clone(l[:senders])})
						l = l[senders:]
					}
					if asks(t, m) {
						fine++
					}
				}
			}
		}
	}
	// Of four Kinds: of 1 to 8 wishes, of 1 to 8 Senders, of one without.
	// Of the three others: without wishes and a style.
	if fine != 4*(8+8+1)+3*11 {
		t.Errorf("seen: %d fine", fine)
	}
}

func TestWishesOfMany(t *testing.T) {
	r := source()
	m := some(r, api.RsvpResv)
	for m.Style = 1; m.Style <= 3; m.Style++ {
		m.Wishes = someWishes(r, m.Style, 8)
		m.Wishes = slices.Repeat(m.Wishes, 100000)
		if asks(t, m) {
			t.Errorf("%d wishes of style %d", len(m.Wishes), m.Style)
		}
		m.Wishes = []api.Wish{{Flow: aFlow(), Senders: slices.Repeat(someSenders(r, 8), 100000)}}
		if asks(t, m) {
			t.Errorf("%d Senders of style %d", len(m.Wishes[0].Senders), m.Style)
		}
	}
}

// One of the wishes' Senders, or two, are other ones, or stand elsewhere.
func TestWishesRise(t *testing.T) {
	r := source()
	for _, style := range []api.Style{api.StyleFixed, api.StyleShared} {
		fine, wrong := 0, 0
		for range 10000 {
			m := some(r, []api.RsvpKind{2, 4, 6, 7}[r.IntN(4)])
			m.Style, m.Wishes = style, someWishes(r, style, 1+r.IntN(8))
			var all []*api.Sender
			for i := range m.Wishes {
				for k := range m.Wishes[i].Senders {
					all = append(all, &m.Wishes[i].Senders[k])
				}
			}
			a, b := all[r.IntN(len(all))], all[r.IntN(len(all))]
			switch r.IntN(4) {
			case 0:
				*a, *b = *b, *a
			case 1:
				*a = *b
			case 2:
				*a = api.Sender{Node: b.Node, Port: b.Port + int64(r.IntN(3)) - 1}
			case 3:
				*a = api.Sender{Node: b.Node + int64(r.IntN(3)) - 1, Port: b.Port}
			}
			if asks(t, m) {
				fine++
			} else {
				wrong++
			}
		}
		if fine < 1000 || wrong < 1000 {
			t.Errorf("style %d: seen: %d fine, %d wrong", style, fine, wrong)
		}
	}
}

// Senders rise by Nodes, of one Node by Ports, as numbers.
func TestRisingExamples(t *testing.T) {
	m := api.Rsvp{Kind: api.RsvpResvTear, Session: api.Session{Node: 2, Port: 5}}
	for _, c := range []struct {
		a, b api.Sender
		want api.Errno
	}{
		{api.Sender{Node: 1, Port: 1}, api.Sender{Node: 1, Port: 2}, api.OK},
		{api.Sender{Node: 1, Port: 9}, api.Sender{Node: 1, Port: 10}, api.OK},
		{api.Sender{Node: 1, Port: 9}, api.Sender{Node: 2, Port: 1}, api.OK},
		{api.Sender{Node: 9, Port: 7}, api.Sender{Node: 10, Port: 7}, api.OK},
		{api.Sender{Node: 0, Port: 65535}, api.Sender{Node: 15, Port: 1}, api.OK},
		{api.Sender{Node: 1, Port: 2}, api.Sender{Node: 1, Port: 1}, api.ErrArg},
		{api.Sender{Node: 1, Port: 10}, api.Sender{Node: 1, Port: 9}, api.ErrArg},
		{api.Sender{Node: 2, Port: 1}, api.Sender{Node: 1, Port: 9}, api.ErrArg},
		{api.Sender{Node: 1, Port: 1}, api.Sender{Node: 1, Port: 1}, api.ErrArg},
	} {
		m.Style, m.Wishes = api.StyleFixed, []api.Wish{{Flow: aFlow(), Senders: []api.Sender{c.a}}, {Flow: aFlow(), Senders: []api.Sender{c.b}}}
		if e := message.Check(m); e != c.want {
			t.Errorf("Check of wishes of %v, %v: %v; must be %v", c.a, c.b, e, c.want)
		}
		m.Style, m.Wishes = api.StyleShared, []api.Wish{{Flow: aFlow(), Senders: []api.Sender{c.a, c.b}}}
		if e := message.Check(m); e != c.want {
			t.Errorf("Check of a wish of %v, %v: %v; must be %v", c.a, c.b, e, c.want)
		}
	}
}

// nil and empty are the same, inside too.
func TestNilAndEmpty(t *testing.T) {
	r := source()
	for _, k := range kinds() {
		m := some(r, k)
		if !has(k, "w") {
			m.Wishes = []api.Wish{}
		} else {
			m.Style, m.Wishes = api.StyleAny, []api.Wish{{Flow: aFlow(), Senders: []api.Sender{}}}
		}
		if !asks(t, m) {
			t.Errorf("%+v must be", m)
		}
	}
}

// P8.1: Raw

// Of each Kind the bytes, written out.
func TestRawExamples(t *testing.T) {
	session, hop, x := api.Session{Node: 2, Port: 5}, api.Hop{Node: 1, Link: 3}, api.Sender{Node: 0, Port: 7}
	spec, fault := aFlow().Spec, api.Fault{Node: 3, Code: 2, Value: 258}
	const (
		sessionHex = "000c0101 00000002 11000005"
		hopHex     = "000c0301 00000001 00000003"
		periodHex  = "00080501 0000001e"
		faultHex   = "000c0601 00000003 00020102"
		tellHex    = "00080f01 00000004"
		fixedHex   = "00080801 0000000a"
		sharedHex  = "00080801 00000012"
		anyHex     = "00080801 00000011"
		wishHex    = "00200902 00000002 00000014 0000000a 00000001 00000008 00000004 00000006"
		filter7Hex = "000c0a01 00000000 00000007"
		filter9Hex = "000c0a01 00000000 00000009"
		senderHex  = "000c0b01 00000000 00000007"
		specHex    = "00180c02 00000002 00000014 0000000a 00000001 00000008"
		termsHex   = "000c0d02 00000014 00000003"
	)
	for _, c := range []struct {
		m    api.Rsvp
		head string
		body []string
	}{
		{api.Rsvp{Kind: api.RsvpPath, Ttl: 63, Session: session, Hop: hop, Period: 30, Sender: x, Spec: spec, Terms: api.Terms{C: 20, D: 3}},
			"1001 0000 3f00 0058", []string{sessionHex, hopHex, periodHex, senderHex, specHex, termsHex}},
		{api.Rsvp{Kind: api.RsvpResv, Ttl: 255, Session: session, Hop: hop, Period: 30, HasTell: true, Tell: 4, Style: api.StyleFixed, Wishes: []api.Wish{aWish(7), aWish(9)}},
			"1002 0000 ff00 0090", []string{sessionHex, hopHex, periodHex, tellHex, fixedHex, wishHex, filter7Hex, wishHex, filter9Hex}},
		{api.Rsvp{Kind: api.RsvpResv, Session: session, Hop: hop, Period: 30, Style: api.StyleShared, Wishes: []api.Wish{aWish(7, 9)}},
			"1002 0000 0000 0068", []string{sessionHex, hopHex, periodHex, sharedHex, wishHex, filter7Hex, filter9Hex}},
		{api.Rsvp{Kind: api.RsvpPathErr, Ttl: 1, Session: session, Fault: fault, Sender: x, Spec: spec},
			"1003 0000 0100 0044", []string{sessionHex, faultHex, senderHex, specHex}},
		{api.Rsvp{Kind: api.RsvpResvErr, Ttl: 1, Session: session, Hop: hop, Fault: fault, Style: api.StyleAny, Wishes: []api.Wish{aWish()}},
			"1004 0000 0100 0054", []string{sessionHex, hopHex, faultHex, anyHex, wishHex}},
		{api.Rsvp{Kind: api.RsvpPathTear, Ttl: 9, Session: session, Hop: hop, Sender: x},
			"1005 0000 0900 002c", []string{sessionHex, hopHex, senderHex}},
		{api.Rsvp{Kind: api.RsvpResvTear, Ttl: 9, Session: session, Hop: hop, Style: api.StyleFixed, Wishes: []api.Wish{aWish(7)}},
			"1006 0000 0900 0054", []string{sessionHex, hopHex, fixedHex, wishHex, filter7Hex}},
		{api.Rsvp{Kind: api.RsvpConf, Ttl: 9, Session: session, Fault: fault, HasTell: true, Tell: 4, Style: api.StyleShared, Wishes: []api.Wish{aWish(7, 9)}},
			"1007 0000 0900 0068", []string{sessionHex, faultHex, tellHex, sharedHex, wishHex, filter7Hex, filter9Hex}},
	} {
		want := seal(unhex(t, c.head+strings.Join(c.body, "")))
		if got, e := message.Raw(c.m); e != api.OK || !bytes.Equal(got, want) {
			t.Errorf("Raw %+v: % x, %v; must be % x", c.m, got, e, want)
		}
		if got, e := message.Parse(want); e != api.OK || !isLike(got, c.m) {
			t.Errorf("Parse % x: %+v, %v; must be %+v", want, got, e, c.m)
		}
		if !asks(t, c.m) {
			t.Errorf("%+v must be", c.m)
		}
	}
}

// One message with its sum, pair by pair; none of it has a 17th bit.
func TestSumStandsThere(t *testing.T) {
	m := api.Rsvp{Kind: api.RsvpPathTear, Ttl: 9, Session: api.Session{Node: 2, Port: 5}, Hop: api.Hop{Node: 1, Link: 3}, Sender: api.Sender{Node: 0, Port: 7}}
	sum := 0x1005 + 0x0900 + 0x002c + 0x000c + 0x0101 + 2 + 0x1100 + 5 + 0x000c + 0x0301 + 1 + 3 + 0x000c + 0x0b01 + 7
	if b, e := message.Raw(m); e != api.OK || int(b[2])<<8|int(b[3]) != 0xffff-sum {
		t.Errorf("Raw: % x, %v; the sum must be %x", b, e, 0xffff-sum)
	}
}

// full tells a message all of whose pairs together are ffff, so that its sum is 0.
func full(t *testing.T, kind api.RsvpKind) api.Rsvp {
	t.Helper()
	m := some(source(), kind)
	for m.Session.Port = 1; m.Session.Port < 65536; m.Session.Port++ {
		if b := bytesOf(m); b[2] == 0 && b[3] == 0 {
			return m
		}
	}
	t.Fatalf("no message whose sum is 0")
	return m
}

// A sum that is 0 is one. Where it stands, ffff would be right too, but it is
// another one than what stands there by sealing.
func TestSumOfNought(t *testing.T) {
	for _, k := range kinds() {
		m := full(t, k)
		if !asks(t, m) {
			t.Fatalf("%+v must be", m)
		}
		b, _ := message.Raw(m)
		if b[2] != 0 || b[3] != 0 {
			t.Fatalf("Raw % x: its sum must be 0", b)
		}
		b[2], b[3] = 0xff, 0xff
		if got, e := message.Parse(b); e != api.ErrSum || !isLike(got, api.Rsvp{}) {
			t.Errorf("Parse with ffff for 0: %+v, %v", got, e)
		}
	}
}

// Without a sum, that is with 0 there, no bytes of another one are a message.
func TestNoSum(t *testing.T) {
	r := source()
	for _, k := range kinds() {
		b := bytesOf(some(r, k))
		b[2], b[3] = 0, 0
		if isSealed(b) {
			continue
		}
		if got, e := message.Parse(b); e != api.ErrSum || !isLike(got, api.Rsvp{}) {
			t.Errorf("Parse without a sum: %+v, %v", got, e)
		}
	}
}

// P8.1: Parse

func TestParseOfFew(t *testing.T) {
	for n := range 8 {
		for _, b := range [][]byte{make([]byte, n), bytes.Repeat([]byte{0xff}, n), bytesOf(some(source(), 1))[:n]} {
			if got, e := message.Parse(b); e != api.ErrRsvp || !isLike(got, api.Rsvp{}) {
				t.Errorf("Parse % x: %+v, %v", b, got, e)
			}
		}
	}
	for _, b := range [][]byte{{16, 1, 0, 0, 9, 0, 0, 8}, {16, 5, 0, 0, 0, 0, 0, 8}, {0, 0, 0, 0, 0, 0, 0, 0}} {
		if got, e := message.Parse(b); e != api.ErrSum || !isLike(got, api.Rsvp{}) {
			t.Errorf("Parse % x: %+v, %v", b, got, e)
		}
		if got, e := message.Parse(seal(b)); e != api.ErrRsvp || !isLike(got, api.Rsvp{}) {
			t.Errorf("Parse % x: %+v, %v", b, got, e)
		}
	}
}

// Each byte of the head is each other one, with the right sum and the former.
func TestParseOfHeads(t *testing.T) {
	r := source()
	for _, k := range kinds() {
		for range 5 {
			b := bytesOf(some(r, k))
			fine := 0
			for at := range 8 {
				for x := range 256 {
					other := slices.Clone(b)
					other[at] = byte(x)
					want := api.ErrSum
					if x == int(b[at]) {
						want = api.OK
					}
					if e := parses(t, other); e != want {
						t.Fatalf("Parse % x: %v; must be %v", other, e, want)
					}
					if parses(t, seal(other)) == api.OK {
						fine++
					}
				}
			}
			// The Ttl may be each one, and the sum's bytes are sealed again; of
			// the others just one is right.
			if fine != 3*256+5 {
				t.Errorf("Kind %d: seen: %d fine", k, fine)
			}
		}
	}
}

// Messages are cut at each place, and go on behind their end.
func TestParseOfLengths(t *testing.T) {
	r := source()
	for _, k := range kinds() {
		b := bytesOf(some(r, k))
		for n := range len(b) {
			other := slices.Clone(b[:n])
			parses(t, other)
			if n < 8 {
				continue
			}
			if e := parses(t, seal(other)); e != api.ErrRsvp {
				t.Errorf("Parse % x: %v", other, e)
			}
			other[6], other[7] = byte(n>>8), byte(n)
			if parses(t, seal(other)) == api.OK && !has(k, "w") { // with wishes it may go on without the last ones
				t.Errorf("% x must be no message", other)
			}
		}
		for n := 1; n < 20; n++ {
			other := append(slices.Clone(b), make([]byte, n)...)
			if e := parses(t, other); e != api.ErrRsvp { // noughts add nothing to the sum
				t.Errorf("Parse % x: %v", other, e)
			}
			other[len(b)] = 1
			if e := parses(t, other); e != api.ErrSum {
				t.Errorf("Parse % x: %v", other, e)
			}
			other[6], other[7] = byte(len(other)>>8), byte(len(other))
			if e := parses(t, seal(other)); e != api.ErrRsvp {
				t.Errorf("Parse % x: %v", other, e)
			}
		}
	}
}

// A number of bytes has just two bytes: beyond them, how many there are is not
// told, though its lower bytes are right.
func TestParseOfLong(t *testing.T) {
	b := bytesOf(some(source(), api.RsvpPathTear))
	for _, n := range []int{65535, 65536, 65537, 65536 + 44, 65536 + 52, 1 << 20, 1 << 24} {
		other := make([]byte, n)
		copy(other, b)
		other[6], other[7] = byte(n>>8), byte(n)
		if got, e := message.Parse(seal(other)); e != api.ErrRsvp || !isLike(got, api.Rsvp{}) {
			t.Errorf("Parse of %d bytes: %+v, %v", n, got, e)
		}
		other[n-1]++
		if got, e := message.Parse(other); e != api.ErrSum || !isLike(got, api.Rsvp{}) {
			t.Errorf("Parse of %d bytes of another sum: %+v, %v", n, got, e)
		}
	}
}

// Objects that are there are taken out, doubled, put elsewhere, or are of
// another message; and words are others. The sum is right.
func TestParseOfObjects(t *testing.T) {
	r := source()
	for _, k := range kinds() {
		fine, wrong := 0, 0
		for range 8000 {
			m := some(r, k)
			l := pieces(m)
			for range 1 + r.IntN(2) {
				at, to := r.IntN(len(l)), r.IntN(len(l))
				switch r.IntN(6) {
				case 0:
					if l = slices.Delete(l, at, at+1); len(l) == 0 {
						l = pieces(m)
					}
				case 1:
					l = slices.Insert(l, to, l[at])
				case 2:
					l[at], l[to] = l[to], l[at]
				case 3:
					others := pieces(some(r, kinds()[r.IntN(7)]))
					l = slices.Insert(l, to, others[r.IntN(len(others))])
				case 4:
					others := pieces(some(r, kinds()[r.IntN(7)]))
					l[at] = others[r.IntN(len(others))]
				case 5:
					w := slices.Clone(l[at].words)
					i := r.IntN(len(w))
					w[i] = []int64{0, 1, w[i] + 1, w[i] - 1, 1<<32 - 1, from(r, 0, 20), from(r, 0, 1<<32-1)}[r.IntN(7)]
					l[at].words = w
				}
			}
			if parses(t, framed(byte(k), byte(m.Ttl), bodyOf(l))) == api.OK {
				fine++
			} else {
				wrong++
			}
		}
		if fine < 100 || wrong < 4000 {
			t.Errorf("Kind %d: seen: %d fine, %d wrong", k, fine, wrong)
		}
	}
}

// All objects of a message, with each Kind's number: no two Kinds have the same.
func TestParseOfOtherKinds(t *testing.T) {
	r := source()
	for _, k := range kinds() {
		for range 50 {
			l := pieces(some(r, k))
			for other := range 256 {
				b := framed(byte(other), 9, bodyOf(l))
				if e := parses(t, b); (e == api.OK) != (other == int(k)) {
					t.Errorf("Parse of Kind %d as %d: %v", k, other, e)
				}
			}
		}
	}
}

// One byte is another one, here and there; most sums are right.
func TestParseOfBytes(t *testing.T) {
	r := source()
	seen := map[api.Errno]int{}
	for range 60000 {
		b := bytesOf(some(r, kinds()[r.IntN(7)]))
		for range 1 + r.IntN(2) {
			b[r.IntN(len(b))] = byte(r.Uint32() >> r.IntN(32))
		}
		if r.IntN(8) > 0 {
			seal(b)
		}
		seen[parses(t, b)]++
	}
	if seen[api.OK] < 5000 || seen[api.ErrSum] < 5000 || seen[api.ErrRsvp] < 5000 {
		t.Errorf("seen: %v", seen)
	}
}

func TestParseOfAnyBytes(t *testing.T) {
	r := source()
	for range 20000 {
		b := make([]byte, r.IntN(100))
		for i := range b {
			b[i] = byte(r.Uint32() >> r.IntN(33))
		}
		parses(t, b)
		if len(b) >= 8 {
			b[0], b[1], b[5], b[6], b[7] = 16, byte(r.IntN(9)), 0, 0, byte(len(b))
			parses(t, seal(b))
		}
	}
}

// What is told shares nothing: with the bytes, with another answer, within it.
func TestParseTellsNewMemory(t *testing.T) {
	r := source()
	for _, style := range []api.Style{api.StyleFixed, api.StyleShared} {
		m := some(r, api.RsvpResv)
		m.Style, m.Wishes = style, someWishes(r, style, 8)
		b := append(bytesOf(m), 0xa5, 0xa5)
		text := b[:len(b)-2]
		got, _ := message.Parse(text)
		again, _ := message.Parse(text)
		if !bytes.Equal(b, append(bytesOf(m), 0xa5, 0xa5)) {
			t.Fatalf("Parse changed % x", b)
		}
		clear(b)
		if !isLike(got, m) {
			t.Errorf("Parse kept bytes: %+v", got)
		}
		for i := range got.Wishes {
			_ = append(got.Wishes[i].Senders, api.Sender{}, api.Sender{})
			clear(got.Wishes[i].Senders)
			rest := cloned(m)
			if !reflect.DeepEqual(got.Wishes[i+1:], rest.Wishes[i+1:]) && i+1 < len(rest.Wishes) {
				t.Errorf("wishes share: %+v", got)
			}
		}
		if !isLike(again, m) {
			t.Errorf("two answers share: %+v", again)
		}
	}
}

func TestRawTellsNewMemory(t *testing.T) {
	r := source()
	for _, k := range kinds() {
		m := some(r, k)
		was := cloned(m)
		a, _ := message.Raw(m)
		b, _ := message.Raw(m)
		clear(a)
		if !bytes.Equal(b, bytesOf(was)) || !isLike(m, was) {
			t.Errorf("answers share: % x of %+v", b, m)
		}
	}
}

// P8.1: Same

func TestSame(t *testing.T) {
	r := source()
	for _, k := range kinds() {
		for range 20 {
			m := some(r, k)
			all := plainChanges()
			if has(k, "w") {
				all = append(all, flowChanges(r.IntN(8))...)
			}
			for _, turn := range all {
				other := cloned(m)
				turn(&other)
				want := isLike(m, other)
				if message.Same(m, other) != want || message.Same(other, m) != want {
					t.Fatalf("Same %+v %+v: not %v", m, other, want)
				}
			}
			if !message.Same(m, cloned(m)) || !message.Same(m, m) {
				t.Fatalf("%+v is another one than itself", m)
			}
		}
	}
}

// Also messages that may not be are the same or not.
func TestSameWishes(t *testing.T) {
	other := aWish(1, 2)
	other.Flow.Slack++
	all := [][]api.Wish{
		nil, {{}}, {{}, {}}, {aWish()}, {aWish(), aWish()}, {aWish(1)}, {aWish(2)}, {aWish(-1)}, {aWish(most)}, {aWish(1, 2)}, {aWish(2, 1)}, {aWish(1, 1)},
		{aWish(1, 2, 3)}, {aWish(1), aWish(2)}, {aWish(2), aWish(1)}, {aWish(1, 2), aWish()}, {aWish(), aWish(1, 2)}, {other},
		{{Flow: aFlow(), Senders: []api.Sender{{Node: 1, Port: 1}}}}, {{Flow: aFlow(), Senders: []api.Sender{{Node: -1, Port: 1}}}},
	}
	for i, a := range all {
		for k, b := range all {
			x, y := api.Rsvp{Wishes: a}, cloned(api.Rsvp{Wishes: b})
			if message.Same(x, y) != (i == k) {
				t.Errorf("Same %+v %+v: %v", a, b, i != k)
			}
		}
	}
	if !message.Same(api.Rsvp{}, api.Rsvp{Wishes: []api.Wish{}}) || !message.Same(api.Rsvp{Wishes: []api.Wish{aWish()}}, api.Rsvp{Wishes: []api.Wish{{Flow: aFlow(), Senders: []api.Sender{}}}}) {
		t.Errorf("nil and empty are not the same")
	}
	l, k := []api.Wish{aWish(1), aWish(2)}, []api.Wish{aWish(1), aWish(3)}
	if !message.Same(api.Rsvp{Wishes: l[:1]}, api.Rsvp{Wishes: k[:1]}) {
		t.Errorf("Same looks behind the wishes")
	}
}

// P8.1: Wishes

// sorted reckons the order, by taking the first of the least ones, over and over.
func sorted[T any](l []T, isLess func(a, b T) bool) []T {
	l = slices.Clone(l)
	var out []T
	for len(l) > 0 {
		low := 0
		for i := range l {
			if isLess(l[i], l[low]) {
				low = i
			}
		}
		out, l = append(out, l[low]), slices.Delete(l, low, low+1)
	}
	return out
}

func isAhead(a, b api.Sender) bool { return a.Node < b.Node || a.Node == b.Node && a.Port < b.Port }

func wishesOf(l []api.Wish) []api.Wish {
	l = cloned(api.Rsvp{Wishes: l}).Wishes
	for i := range l {
		l[i].Senders = sorted(l[i].Senders, isAhead)
	}
	return sorted(l, func(a, b api.Wish) bool {
		if len(a.Senders) == 0 || len(b.Senders) == 0 {
			return len(a.Senders) < len(b.Senders) && len(a.Senders) == 0
		}
		return isAhead(a.Senders[0], b.Senders[0])
	})
}

func isLikeWishes(a, b []api.Wish) bool { return isLike(api.Rsvp{Wishes: a}, api.Rsvp{Wishes: b}) }

// numbered is a wish that is known again by its Slack.
func numbered(n int64, senders ...api.Sender) api.Wish {
	return api.Wish{Flow: api.Flow{Slack: n}, Senders: senders}
}

func TestWishesExamples(t *testing.T) {
	x := func(node, port int64) api.Sender { return api.Sender{Node: node, Port: port} }
	for _, c := range []struct{ l, want []api.Wish }{
		{nil, nil},
		{[]api.Wish{}, nil},
		{[]api.Wish{{}}, []api.Wish{{}}},
		{[]api.Wish{numbered(1, x(2, 1)), numbered(2, x(1, 9))}, []api.Wish{numbered(2, x(1, 9)), numbered(1, x(2, 1))}},
		{[]api.Wish{numbered(1, x(1, 10)), numbered(2, x(1, 9))}, []api.Wish{numbered(2, x(1, 9)), numbered(1, x(1, 10))}},
		{[]api.Wish{numbered(1, x(0, 1)), numbered(2), numbered(3)}, []api.Wish{numbered(2), numbered(3), numbered(1, x(0, 1))}},
		{[]api.Wish{numbered(1, x(-5, 1)), numbered(2), numbered(3, x(-6, 1))}, []api.Wish{numbered(2), numbered(3, x(-6, 1)), numbered(1, x(-5, 1))}},
		{[]api.Wish{numbered(1, x(3, 1), x(2, 2), x(2, 1))}, []api.Wish{numbered(1, x(2, 1), x(2, 2), x(3, 1))}},
		// By their first Senders in order, not by those that stood first.
		{[]api.Wish{numbered(1, x(2, 1)), numbered(2, x(3, 1), x(1, 1))}, []api.Wish{numbered(2, x(1, 1), x(3, 1)), numbered(1, x(2, 1))}},
		// Of the same first Sender as they stood, whatever the others are.
		{[]api.Wish{numbered(1, x(1, 1), x(4, 1)), numbered(2, x(1, 1), x(3, 1)), numbered(3, x(1, 1))},
			[]api.Wish{numbered(1, x(1, 1), x(4, 1)), numbered(2, x(1, 1), x(3, 1)), numbered(3, x(1, 1))}},
		{[]api.Wish{numbered(9, x(1, 1)), numbered(3, x(1, 1)), numbered(5, x(1, 1))}, []api.Wish{numbered(9, x(1, 1)), numbered(3, x(1, 1)), numbered(5, x(1, 1))}},
		// What may not be is put in order likewise, and nothing of it goes.
		{[]api.Wish{numbered(-1, x(most, least), x(least, most), x(most, least))}, []api.Wish{numbered(-1, x(least, most), x(most, least), x(most, least))}},
	} {
		if got := message.Wishes(c.l...); !isLikeWishes(got, c.want) {
			t.Errorf("Wishes %v: %v; must be %v", c.l, got, c.want)
		}
	}
}

func TestWishes(t *testing.T) {
	r := source()
	for range 5000 {
		var l []api.Wish
		for n := range r.IntN(30) {
			w := numbered(int64(n))
			for range r.IntN(5) {
				w.Senders = append(w.Senders, api.Sender{Node: int64(r.IntN(3) - 1), Port: int64(r.IntN(3) - 1)})
			}
			l = append(l, w)
		}
		was := cloned(api.Rsvp{Wishes: l}).Wishes
		got := message.Wishes(l...)
		if !isLikeWishes(l, was) {
			t.Fatalf("Wishes changed %v to %v", was, l)
		}
		if !isLikeWishes(got, wishesOf(l)) {
			t.Fatalf("Wishes %v: %v; must be %v", l, got, wishesOf(l))
		}
		if again := message.Wishes(got...); !isLikeWishes(again, got) {
			t.Fatalf("Wishes of wishes in order, %v: %v", got, again)
		}
	}
}

// What rises not yet does so then: such a message may be.
func TestWishesMayBe(t *testing.T) {
	r := source()
	for range 2000 {
		m := some(r, api.RsvpResv)
		want := cloned(m).Wishes
		r.Shuffle(len(m.Wishes), func(i, k int) { m.Wishes[i], m.Wishes[k] = m.Wishes[k], m.Wishes[i] })
		for _, w := range m.Wishes {
			r.Shuffle(len(w.Senders), func(i, k int) { w.Senders[i], w.Senders[k] = w.Senders[k], w.Senders[i] })
		}
		m.Wishes = message.Wishes(m.Wishes...)
		if !isLikeWishes(m.Wishes, want) || !asks(t, m) {
			t.Fatalf("%+v: its wishes must be %v", m, want)
		}
	}
}

// Also wishes that share their Senders are answered apart.
func TestWishesTellNewMemory(t *testing.T) {
	shared := []api.Sender{{Node: 3, Port: 3}, {Node: 2, Port: 2}, {Node: 1, Port: 1}}
	l := append([]api.Wish{numbered(1, shared[:2]...), numbered(2, shared[:2]...)}, numbered(3), numbered(4))
	got := message.Wishes(l[:2]...)
	again := message.Wishes(l[:2]...)
	want := wishesOf(l[:2])
	if len(l) != 4 || l[2].Flow.Slack != 3 || !slices.Equal(shared, []api.Sender{{Node: 3, Port: 3}, {Node: 2, Port: 2}, {Node: 1, Port: 1}}) {
		t.Fatalf("Wishes changed %v, %v", l, shared)
	}
	clear(got[0].Senders)
	if !isLikeWishes(got[1:], want[1:]) {
		t.Errorf("wishes share: %v", got)
	}
	clear(shared)
	clear(l)
	if !isLikeWishes(again, want) {
		t.Errorf("Wishes kept, or two answers share: %v", again)
	}
}

// P8.2

// That Parse of Raw is the message, and Raw of Parse the bytes, asks and parses
// hold in all tests above. Here with all Ttls, and the longest of each Kind.
func TestParseOfRaw(t *testing.T) {
	r := source()
	for _, k := range kinds() {
		for ttl := range 256 {
			m := some(r, k)
			m.Ttl = ttl
			if has(k, "w") {
				m.Style, m.Wishes = api.StyleFixed, someWishes(r, api.StyleFixed, 8)
			}
			if !asks(t, m) || parses(t, bytesOf(m)) != api.OK {
				t.Fatalf("%+v must be", m)
			}
		}
	}
}

// With one bit turned it is none: its sum is another one, also where it is 0.
func TestOneBitTurned(t *testing.T) {
	r := source()
	for _, k := range kinds() {
		all := []api.Rsvp{full(t, k)}
		for range 40 {
			all = append(all, some(r, k))
		}
		for _, m := range all {
			b, e := message.Raw(m)
			if e != api.OK {
				t.Fatalf("Raw %+v: %v", m, e)
			}
			for bit := range 8 * len(b) {
				b[bit/8] ^= 1 << (bit % 8)
				if got, e := message.Parse(b); e != api.ErrSum || !isLike(got, api.Rsvp{}) {
					t.Fatalf("Parse % x, of %+v with the bit %d turned: %+v, %v", b, m, bit, got, e)
				}
				b[bit/8] ^= 1 << (bit % 8)
			}
		}
	}
}
