package ar_test

import (
	"bytes"
	"encoding/binary"
	"fmt"
	"regexp"
	"slices"
	"strconv"
	"strings"
	"testing"

	"quoin/api"
	"quoin/ar"
	"quoin/elfr"
)

// entry is one of an index: its name, and which member it tells of.
type entry struct {
	name   string
	member int
}

// part is one of an archive's file, each field of its head written out. Of an index the bytes are made of its entries, so that the places are right whatever else is turned.
type part struct {
	name, time, owner, group, mode string
	// many is as many bytes as there are, and fill as the house fills up, if they are empty; "none" is no fill.
	many, fill, ends string
	data             string
	index            []entry
	// more is by how much the index tells more names than it has; by is what is added to each of its places.
	more, by int
	member   bool
}

// plan is an archive's file, by the tests' own reckoning; a test turns it.
type plan struct {
	sign  string
	parts []part
}

// partOf is one as the house writes it.
func partOf(name, data string) part {
	return part{name: name, time: "0", owner: "0", group: "0", mode: "644", ends: "`\n", data: data}
}

// bytes are those of p, the members' heads being at places.
func (p part) bytes(places []int) string {
	if p.index == nil {
		return p.data
	}
	b := binary.BigEndian.AppendUint32(nil, uint32(len(p.index)+p.more))
	for _, e := range p.index {
		at := 0
		if e.member < len(places) {
			at = places[e.member] + p.by
		}
		b = binary.BigEndian.AppendUint32(b, uint32(at))
	}
	for _, e := range p.index {
		b = append(append(b, e.name...), 0)
	}
	return string(b) + p.data
}

// file is that of p, its head and what fills up with it.
func (p part) file(places []int) string {
	b := p.bytes(places)
	many, fill := p.many, p.fill
	if many == "" {
		many = strconv.Itoa(len(b))
	}
	if fill == "" && len(b)%2 == 1 {
		fill = "\n"
	}
	return fmt.Sprintf("%-16s%-12s%-6s%-6s%-8s%-10s%s", p.name, p.time, p.owner, p.group, p.mode, many, p.ends) + b + strings.TrimPrefix(fill, "none")
}

// file is that of p.
func (p plan) file() []byte {
	var places []int
	at := len(p.sign)
	for _, q := range p.parts {
		if q.member {
			places = append(places, at)
		}
		at += len(q.file(nil))
	}
	b := p.sign
	for _, q := range p.parts {
		b += q.file(places)
	}
	return []byte(b)
}

// planOf is that of the members l, which need not be such as may be.
func planOf(l []api.Member) plan {
	p := plan{sign: "!<arch>\n"}
	index := partOf("/", "")
	longs := partOf("//", "")
	var members []part
	for i, m := range l {
		for _, name := range defined(m.Data) {
			index.index = append(index.index, entry{name, i})
		}
		name := m.Name + "/"
		if len(m.Name) > 15 {
			name = fmt.Sprint("/", len(longs.data))
			longs.data += m.Name + "/\n"
		}
		q := partOf(name, string(m.Data))
		q.member = true
		members = append(members, q)
	}
	if index.index != nil {
		p.parts = append(p.parts, index)
	}
	if longs.data != "" {
		p.parts = append(p.parts, longs)
	}
	p.parts = append(p.parts, members...)
	return p
}

// defined are the names that data defines for others, if it is an object's file.
func defined(data []byte) []string {
	o, e := elfr.Read(data)
	if e != api.OK {
		return nil
	}
	var all []string
	for _, s := range o.Symbols {
		switch {
		case s.Bind == 0, s.Where == 0:
		default:
			all = append(all, s.Name)
		}
	}
	return all
}

// mayBe is a name that may be.
var mayBe = regexp.MustCompile(`\A[!-.0-~]{1,32}\z`)

// may tells whether members may be l.
func may(l []api.Member) bool {
	seen := map[string]int{}
	for _, m := range l {
		seen[m.Name]++
		if !mayBe.MatchString(m.Name) || seen[m.Name] > 1 {
			return false
		}
	}
	return len(l) <= 16
}

// loosely are the members of b, without care for much; there are none, if there is no telling.
func loosely(b []byte) (l []api.Member, ok bool) {
	defer func() {
		if recover() != nil {
			l, ok = nil, false
		}
	}()
	longs := ""
	for s := string(b[8:]); s != ""; {
		name := strings.TrimRight(s[:16], " ")
		many, err := strconv.ParseUint(strings.TrimRight(s[48:58], " "), 10, 32)
		if err != nil {
			return nil, false
		}
		data := s[60 : 60+many]
		s = s[min(60+int(many)+int(many)%2, len(s)):]
		switch {
		case name == "/":
		case name == "//":
			longs = data
		case name[0] == '/':
			at, err := strconv.ParseUint(name[1:], 10, 32)
			if err != nil {
				return nil, false
			}
			l = append(l, api.Member{Name: longs[at:][:strings.Index(longs[at:], "/")], Data: []byte(data)})
		default:
			l = append(l, api.Member{Name: name[:strings.Index(name, "/")], Data: []byte(data)})
		}
	}
	return l, true
}

// told is l as a text, which is the same just of members whose names and bytes are the same.
func told(l []api.Member) string {
	var b strings.Builder
	for _, m := range l {
		fmt.Fprintf(&b, "%q: %q\n", m.Name, m.Data)
	}
	return b.String()
}

// wantRead holds Read's answer for b against what the chapter says it is, and tells whether there are members.
func wantRead(t *testing.T, what string, b []byte) bool {
	t.Helper()
	want, ok := loosely(b)
	if !ok || !may(want) || len(b) > 65536 || !bytes.Equal(planOf(want).file(), b) {
		wantBad(t, what, b)
		return false
	}
	got, e := ar.Read(b)
	if e != api.OK || told(got) != told(want) {
		t.Fatalf("%s: Read = %.300s, %d; want %.300s", what, told(got), int(e), told(want))
	}
	return true
}

// wantBad holds that b is refused.
func wantBad(t *testing.T, what string, b []byte) {
	t.Helper()
	if got, e := ar.Read(b); e != api.ErrBad || len(got) > 0 {
		t.Fatalf("%s: Read of %d bytes = %.300s, %d; want none, %d", what, len(b), told(got), int(e), int(api.ErrBad))
	}
}

// wantWrite holds that l is written as the tests' plan is, and read as it was; that its index is the plan's; and that what is read is written as just these bytes.
func wantWrite(t *testing.T, l []api.Member) {
	t.Helper()
	b, e := ar.Write(l)
	if want := planOf(l).file(); e != api.OK || !bytes.Equal(b, want) {
		t.Fatalf("Write of %.300s = %.300q, %d; want %.300q", told(l), b, int(e), want)
	}
	got, e := ar.Read(b)
	if e != api.OK || told(got) != told(l) {
		t.Fatalf("Read of the file of %.300s = %.300s, %d", told(l), told(got), int(e))
	}
	if again, e := ar.Write(got); e != api.OK || !bytes.Equal(again, b) {
		t.Fatalf("what is read of the file of %.300s has another file", told(l))
	}
	if !ar.Is(b) {
		t.Fatalf("the file of %.300s is none", told(l))
	}
	var want []api.Named
	for i, m := range l {
		for _, name := range defined(m.Data) {
			want = append(want, api.Named{Name: name, At: i})
		}
	}
	if index, e := ar.Index(l); e != api.OK || !slices.Equal(index, want) {
		t.Fatalf("Index of %.300s = %v, %d; want %v", told(l), index, int(e), want)
	}
}

// wantError holds that Write and Index answer e for l, and nothing beside it.
func wantError(t *testing.T, what string, l []api.Member, want api.Errno) {
	t.Helper()
	if b, e := ar.Write(l); e != want || len(b) > 0 {
		t.Errorf("%s: Write = %d bytes, %d; want none, %d", what, len(b), int(e), int(want))
	}
	if index, e := ar.Index(l); e != want || len(index) > 0 {
		t.Errorf("%s: Index = %v, %d; want none, %d", what, index, int(e), int(want))
	}
}
