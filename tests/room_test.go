package tests

import (
	"slices"
	"strings"
	"testing"
	"unsafe"

	"loop.example/hubbub/impl"
)

// The kinds, codes and limits are the document's: other tests take them by name.
func TestRoomNumbers(t *testing.T) {
	kinds := []int{impl.EntryJoin, impl.EntryLeave, impl.EntryTalk, impl.EntrySubject, impl.EntryRole, impl.EntryRank}
	leaves := []int{impl.LeaveSelf, impl.LeaveKick, impl.LeaveOut, impl.LeaveLost}
	codes := []int{impl.ErrFine, impl.ErrForm, impl.ErrHere, impl.ErrThere, impl.ErrNick, impl.ErrFull, impl.ErrOut, impl.ErrMay, impl.ErrWho, impl.ErrLast, impl.ErrRef, impl.ErrItem}
	if !slices.Equal(kinds, []int{1, 2, 3, 4, 5, 6}) || !slices.Equal(leaves, []int{0, 1, 2, 3}) || !slices.Equal(codes, []int{0, 1, 2, 3, 4, 5, 6, 7, 8, 9, 10, 11}) {
		t.Error(kinds, leaves, codes)
	}
	if impl.MemberMax != 5 || impl.RankMax != 6 {
		t.Error(impl.MemberMax, impl.RankMax)
	}
}

// den is a room with an owner, an admin, a member, one without a rank, and an outcast.
func den() impl.Room {
	return impl.Room{
		Name:    "den",
		Next:    20,
		Members: []impl.Member{{User: "ann", Nick: "Ann", Role: 3}, {User: "bob", Nick: "Bob", Role: 3}, {User: "cyd", Nick: "Cyd", Role: 2}, {User: "dan", Nick: "Dan", Role: 1}},
		Ranks:   []impl.Rank{{User: "ann", Num: 4}, {User: "bob", Num: 3}, {User: "cyd", Num: 2}, {User: "eve", Num: 0}},
		Subject: "ours",
	}
}

func cloneRoom(r impl.Room) impl.Room {
	r.Members, r.Ranks = slices.Clone(r.Members), slices.Clone(r.Ranks)
	return r
}

func sameRoom(a, b impl.Room) bool {
	return a.Name == b.Name && a.Next == b.Next && a.Subject == b.Subject && slices.Equal(a.Members, b.Members) && slices.Equal(a.Ranks, b.Ranks)
}

func isNoRoom(r impl.Room) bool {
	return sameRoom(r, impl.Room{})
}

// withRoom is den, changed.
func withRoom(change func(r *impl.Room)) impl.Room {
	r := den()
	change(&r)
	return r
}

// with1Rank is a room with that rank alone.
func with1Rank(user string, num int) impl.Room {
	return impl.Room{Name: "den", Next: 1, Ranks: []impl.Rank{{User: user, Num: num}}}
}

// with1Member is a room with an owner, and that member alone.
func with1Member(user, nick string, role int) impl.Room {
	r := with1Rank("zoe", 4)
	r.Members = []impl.Member{{User: user, Nick: nick, Role: role}}
	return r
}

func fiveMembers() []impl.Member {
	var list []impl.Member
	for _, c := range "fghij" {
		list = append(list, impl.Member{User: string(c), Nick: strings.ToUpper(string(c)), Role: 2})
	}
	return list
}

func sixRanks() []impl.Rank {
	var list []impl.Rank
	for i, c := range "abcdef" {
		list = append(list, impl.Rank{User: string(c), Num: []int{0, 2, 3, 4, 2, 3}[i]})
	}
	return list
}

func roomsOk() []impl.Room {
	list := []impl.Room{
		{Name: "den"}, {Name: "d", Members: []impl.Member{}, Ranks: []impl.Rank{}},
		den(), with1Rank("ann", 4),
		withRoom(func(r *impl.Room) { r.Next = 0 }),
		withRoom(func(r *impl.Room) { r.Next = 9999 }),
		withRoom(func(r *impl.Room) { r.Subject = "" }),
		withRoom(func(r *impl.Room) { r.Subject = strings.Repeat("x", 60) }),
		withRoom(func(r *impl.Room) { r.Subject = " \n<&>" }),
		withRoom(func(r *impl.Room) { r.Members = nil }),
		withRoom(func(r *impl.Room) { r.Members = fiveMembers() }),
		withRoom(func(r *impl.Room) { r.Ranks, r.Members = sixRanks(), nil }),
		withRoom(func(r *impl.Room) { r.Ranks[1].Num = 4 }),
		withRoom(func(r *impl.Room) {
			r.Ranks = []impl.Rank{{User: "a", Num: 0}, {User: "aa", Num: 2}, {User: "b", Num: 4}}
		}),
		withRoom(func(r *impl.Room) { r.Members[0].Nick = "ann" }),
		withRoom(func(r *impl.Room) { r.Members[0].Nick = "bob" }),
		{Name: "den", Ranks: []impl.Rank{{User: "ann", Num: 4}}, Subject: "x"},
	}
	for _, u := range goodUsers {
		list = append(list, with1Rank(u, 4), with1Member(u, "N", 1), impl.Room{Name: u})
	}
	for _, n := range goodNicks {
		list = append(list, with1Member("ann", n, 3))
	}
	return list
}

func roomsNotOk() []impl.Room {
	list := []impl.Room{
		{}, {Next: 1}, with1Rank("", 4), with1Member("", "N", 1), with1Member("ann", "", 1),
		// Without an owner there is nothing else.
		{Name: "den", Next: 1},
		{Name: "den", Subject: "x"},
		{Name: "den", Members: []impl.Member{{User: "ann", Nick: "Ann", Role: 2}}},
		{Name: "den", Ranks: []impl.Rank{{User: "ann", Num: 3}}},
		{Name: "den", Ranks: []impl.Rank{{User: "ann", Num: 0}}},
		withRoom(func(r *impl.Room) { r.Ranks[0].Num = 3 }),
		withRoom(func(r *impl.Room) { r.Ranks = nil }),
		// Each limit, and one more.
		withRoom(func(r *impl.Room) { r.Next = -1 }),
		withRoom(func(r *impl.Room) { r.Next = 10000 }),
		withRoom(func(r *impl.Room) { r.Next = -1 << 63 }),
		withRoom(func(r *impl.Room) { r.Subject = strings.Repeat("x", 61) }),
		withRoom(func(r *impl.Room) { r.Subject = "\xff" }),
		withRoom(func(r *impl.Room) { r.Subject = "\r" }),
		withRoom(func(r *impl.Room) { r.Members = append(fiveMembers(), impl.Member{User: "k", Nick: "K", Role: 2}) }),
		withRoom(func(r *impl.Room) { r.Ranks, r.Members = append(sixRanks(), impl.Rank{User: "g", Num: 2}), nil }),
		// Each once, in order.
		withRoom(func(r *impl.Room) { r.Members[3].User = "ann" }),
		withRoom(func(r *impl.Room) { r.Members[3].Nick = "Ann" }),
		withRoom(func(r *impl.Room) { r.Members[1].Nick = "Cyd" }),
		withRoom(func(r *impl.Room) { r.Ranks[1].User = "ann" }),
		withRoom(func(r *impl.Room) { r.Ranks[0], r.Ranks[1] = r.Ranks[1], r.Ranks[0] }),
		withRoom(func(r *impl.Room) { r.Ranks[2], r.Ranks[3] = r.Ranks[3], r.Ranks[2] }),
		withRoom(func(r *impl.Room) { r.Ranks = []impl.Rank{{User: "aa", Num: 2}, {User: "a", Num: 4}} }),
		// Nobody who is put out is there.
		withRoom(func(r *impl.Room) { r.Members[3].User = "eve" }),
		withRoom(func(r *impl.Room) { r.Ranks[1].Num = 0 }),
	}
	for _, u := range badUsers {
		list = append(list, with1Rank(u, 4), with1Member(u, "N", 1), impl.Room{Name: u})
	}
	for _, n := range badNicks {
		list = append(list, with1Member("ann", n, 3))
	}
	for _, n := range []int{-1, 0, 4, 1 << 32} {
		list = append(list, with1Member("ann", "N", n))
	}
	for _, n := range []int{-1, 1, 5, 1 << 32} {
		list = append(list, withRoom(func(r *impl.Room) { r.Ranks[2].Num = n }))
	}
	return list
}

func TestRoomOk(t *testing.T) {
	for _, r := range roomsOk() {
		if !impl.RoomOk(r) {
			t.Errorf("RoomOk(%+v) is false", r)
		}
	}
	for _, r := range roomsNotOk() {
		if impl.RoomOk(r) {
			t.Errorf("RoomOk(%+v) is true", r)
		}
	}
}

// roomFits asks anew what a room must be, with maps and without the program's own order of asking.
func roomFits(r impl.Room) bool {
	users, nicks, ranks, owners := map[string]bool{}, map[string]bool{}, map[string]int{}, 0
	for _, k := range r.Ranks {
		if _, there := ranks[k.User]; there || !userFits(k.User) || !slices.Contains([]int{0, 2, 3, 4}, k.Num) {
			return false
		}
		ranks[k.User] = k.Num
		if k.Num == 4 {
			owners++
		}
	}
	for _, m := range r.Members {
		rank, ranked := ranks[m.User]
		if users[m.User] || nicks[m.Nick] || ranked && rank == 0 || !userFits(m.User) || !nickFits(m.Nick) || m.Role < 1 || m.Role > 3 {
			return false
		}
		users[m.User], nicks[m.Nick] = true, true
	}
	inOrder := slices.IsSortedFunc(r.Ranks, func(a, b impl.Rank) int { return strings.Compare(a.User, b.User) })
	bounds := len(r.Members) <= 5 && len(r.Ranks) <= 6 && len(r.Subject) <= 60 && r.Next >= 0 && r.Next <= 9999
	return userFits(r.Name) && inOrder && bounds && impl.TextOk(r.Subject) && (owners > 0 || r.Next == 0 && len(r.Members)+len(r.Ranks)+len(r.Subject) == 0)
}

var (
	someUsers = []string{"a", "ab", "ann", "b", "bob", "cyd", "dan"}
	someNicks = []string{"A", "Ab", "Ann", "B", "Bob", "Cyd", "Dan"}
	someNexts = []int{0, 0, 1, 2, 7, 100, 9995, 9996, 9997, 9998, 9999}
)

// room is a room that is ok, be it one that can come about or not.
func (d dice) room() impl.Room {
	r := impl.Room{Name: "den"}
	if d.IntN(20) == 0 {
		return r
	}
	r.Next = someNexts[d.IntN(len(someNexts))]
	if d.IntN(2) == 0 {
		r.Subject = "ours"
	}
	out := map[string]bool{}
	owner := d.IntN(impl.RankMax)
	for i, k := range d.Perm(len(someUsers))[:1+d.IntN(impl.RankMax)] {
		rank := impl.Rank{User: someUsers[k], Num: []int{0, 2, 3, 4}[d.IntN(4)]}
		if i == 0 || i == owner {
			rank.Num = 4
		}
		out[rank.User] = rank.Num == 0
		r.Ranks = append(r.Ranks, rank)
	}
	slices.SortFunc(r.Ranks, func(a, b impl.Rank) int { return strings.Compare(a.User, b.User) })
	nicks := d.Perm(len(someNicks))
	for i, k := range d.Perm(len(someUsers))[:d.IntN(impl.MemberMax+1)] {
		if !out[someUsers[k]] {
			r.Members = append(r.Members, impl.Member{User: someUsers[k], Nick: someNicks[nicks[i]], Role: 1 + d.IntN(3)})
		}
	}
	return r
}

// brokenRoom is a room with something changed, that may be wrong then.
func brokenRoom(d dice, r impl.Room) impl.Room {
	r = cloneRoom(r)
	switch k := d.IntN(8); {
	case k == 0:
		r.Next = []int{-1, 0, 9999, 10000}[d.IntN(4)]
	case k == 1:
		r.Name = []string{"", "d", "Den", "abcdefghi"}[d.IntN(4)]
	case k == 2:
		r.Subject = []string{"", "x", "\x00", strings.Repeat("y", 61)}[d.IntN(4)]
	case k == 3 && len(r.Members) > 0:
		r.Members = append(r.Members, r.Members[d.IntN(len(r.Members))])
		r.Members[len(r.Members)-1].User = someUsers[d.IntN(len(someUsers))]
	case k == 4 && len(r.Members) > 0:
		r.Members[d.IntN(len(r.Members))] = impl.Member{User: someUsers[d.IntN(len(someUsers))], Nick: someNicks[d.IntN(len(someNicks))], Role: d.IntN(5)}
	case k == 5 && len(r.Ranks) > 0:
		r.Ranks[d.IntN(len(r.Ranks))] = impl.Rank{User: someUsers[d.IntN(len(someUsers))], Num: d.IntN(6) - 1}
	case k == 6:
		r.Ranks = append(r.Ranks, impl.Rank{User: someUsers[d.IntN(len(someUsers))], Num: d.IntN(5)})
	case k == 7 && len(r.Ranks) > 0:
		at := d.IntN(len(r.Ranks))
		r.Ranks = slices.Delete(r.Ranks, at, at+1)
	}
	return r
}

func TestRoomOkOfManyRooms(t *testing.T) {
	d := newDice()
	ok, wrong := 0, 0
	for range 30000 {
		r := d.room()
		if !impl.RoomOk(r) || !roomFits(r) {
			t.Fatalf("%+v is no room", r)
		}
		r = brokenRoom(d, r)
		if impl.RoomOk(r) != roomFits(r) {
			t.Fatalf("RoomOk(%+v) is %v", r, impl.RoomOk(r))
		}
		if impl.RoomOk(r) {
			ok++
		} else {
			wrong++
		}
	}
	if ok < 3000 || wrong < 3000 {
		t.Error(ok, wrong)
	}
}

// An entry of each kind, with all that it has.
var entryCases = []impl.Entry{
	{Room: "den", Seq: 20, Kind: 1, User: "fay", Nick: "Fay", Num: 2},
	{Room: "den", Seq: 20, Kind: 2, User: "cyd", Nick: "Cyd", Num: 3},
	{Room: "den", Seq: 20, Kind: 3, User: "cyd", Nick: "Cyd", Text: "hi", Id: "m1", Ref: "m0"},
	{Room: "den", Seq: 20, Kind: 4, User: "cyd", Nick: "Cyd", Text: "hi", Id: "m1"},
	{Room: "den", Seq: 20, Kind: 5, User: "cyd", Nick: "Cyd", Num: 1},
	{Room: "den", Seq: 20, Kind: 6, User: "cyd", Num: 3},
}

// entryField is one of the texts of an entry, by its place.
func entryField(e *impl.Entry, i int) *string {
	return []*string{&e.Room, &e.User, &e.Nick, &e.Text, &e.Id, &e.Ref}[i]
}

// Each kind with just what it has, with one thing more and with one thing less.
func TestEntryHasJustItsThings(t *testing.T) {
	for _, c := range entryCases {
		if !impl.EntryOk(c) {
			t.Errorf("EntryOk(%+v) is false", c)
		}
		for i := range 6 {
			e := c
			had := *entryField(&e, i) != ""
			*entryField(&e, i) = map[bool]string{true: "", false: "x"}[had]
			if want := c.Kind == 3 && i == 5; impl.EntryOk(e) != want {
				t.Errorf("EntryOk(%+v) is %v", e, !want)
			}
		}
		if e := c; c.Kind == 3 || c.Kind == 4 {
			for _, x := range []int{-1, 1, 2} {
				e.Num = x
				if impl.EntryOk(e) {
					t.Errorf("EntryOk(%+v) is true", e)
				}
			}
		}
		e := c
		for _, x := range []int{-1, 0, 7, 8, 256} {
			e.Kind = x
			if impl.EntryOk(e) || impl.EntryOk(impl.Entry{Kind: e.Kind, Room: "den", User: "ann"}) {
				t.Errorf("EntryOk(%+v) is true", e)
			}
		}
	}
	if impl.EntryOk(impl.Entry{}) {
		t.Error("nothing is an entry")
	}
}

func TestEntryNumbers(t *testing.T) {
	for _, c := range []struct{ kind, least, most int }{{1, 1, 3}, {2, 0, 3}, {3, 0, 0}, {4, 0, 0}, {5, 1, 3}, {6, 0, 4}} {
		e := entryCases[c.kind-1]
		for n := -2; n < 8; n++ {
			e.Num = n
			if want := c.least <= n && n <= c.most; impl.EntryOk(e) != want {
				t.Errorf("EntryOk(%+v) is %v", e, !want)
			}
		}
		e = entryCases[c.kind-1]
		for _, x := range []int{0, 1, 9997, 9998} {
			e.Seq = x
			if !impl.EntryOk(e) {
				t.Errorf("EntryOk(%+v) is false", e)
			}
		}
		for _, x := range []int{-1, 9999, 10000, 1 << 40} {
			e.Seq = x
			if impl.EntryOk(e) {
				t.Errorf("EntryOk(%+v) is true", e)
			}
		}
	}
}

func TestEntryTexts(t *testing.T) {
	words := []string{"a", "!", "~", "abcdefghijkl"}
	notWords := []string{" ", "a b", "\x7f", "é", "abcdefghijklm", "a\n"}
	bodies := []string{"a", " ", "\n", strings.Repeat("x", 60), strings.Repeat("é", 30)}
	notBodies := []string{strings.Repeat("x", 61), strings.Repeat("é", 30) + "x", "\x00", "\r", "\xff"}
	for _, c := range []struct {
		at   int
		kind []int
		good []string
		bad  []string
	}{
		{0, []int{1, 2, 3, 4, 5, 6}, goodUsers, badUsers},
		{1, []int{1, 2, 3, 4, 5, 6}, goodUsers, badUsers},
		{2, []int{1, 2, 3, 4, 5}, goodNicks, badNicks},
		{3, []int{3, 4}, bodies, notBodies},
		{4, []int{3, 4}, words, notWords},
		{5, []int{3}, words, notWords},
	} {
		for _, kind := range c.kind {
			e := entryCases[kind-1]
			for _, x := range c.good {
				*entryField(&e, c.at) = x
				if !impl.EntryOk(e) {
					t.Errorf("EntryOk(%+v) is false", e)
				}
			}
			for _, x := range c.bad {
				*entryField(&e, c.at) = x
				if impl.EntryOk(e) {
					t.Errorf("EntryOk(%+v) is true", e)
				}
			}
		}
	}
}

func TestRoomApply(t *testing.T) {
	for _, c := range []struct {
		e      impl.Entry
		change func(r *impl.Room)
	}{
		{impl.Entry{Kind: 1, User: "fay", Nick: "Fay", Num: 1}, func(r *impl.Room) { r.Members = append(r.Members, impl.Member{User: "fay", Nick: "Fay", Role: 1}) }},
		{impl.Entry{Kind: 1, User: "a", Nick: "A", Num: 3}, func(r *impl.Room) { r.Members = append(r.Members, impl.Member{User: "a", Nick: "A", Role: 3}) }},
		{impl.Entry{Kind: 2, User: "ann", Nick: "Ann"}, func(r *impl.Room) { r.Members = r.Members[1:] }},
		{impl.Entry{Kind: 2, User: "bob", Nick: "Bob", Num: 1}, func(r *impl.Room) { r.Members = slices.Delete(r.Members, 1, 2) }},
		{impl.Entry{Kind: 2, User: "dan", Nick: "Dan", Num: 3}, func(r *impl.Room) { r.Members = r.Members[:3] }},
		{impl.Entry{Kind: 3, User: "dan", Nick: "Dan", Text: "hi", Id: "m"}, func(r *impl.Room) {}},
		{impl.Entry{Kind: 3, User: "bob", Nick: "Bob", Text: "hi", Id: "m", Ref: "k"}, func(r *impl.Room) {}},
		{impl.Entry{Kind: 4, User: "dan", Nick: "Dan", Text: "new", Id: "m"}, func(r *impl.Room) { r.Subject = "new" }},
		{impl.Entry{Kind: 5, User: "dan", Nick: "Dan", Num: 3}, func(r *impl.Room) { r.Members[3].Role = 3 }},
		{impl.Entry{Kind: 5, User: "ann", Nick: "Ann", Num: 1}, func(r *impl.Room) { r.Members[0].Role = 1 }},
		{impl.Entry{Kind: 6, User: "dan", Num: 2}, func(r *impl.Room) { r.Ranks = slices.Insert(r.Ranks, 3, impl.Rank{User: "dan", Num: 2}) }},
		{impl.Entry{Kind: 6, User: "a", Num: 0}, func(r *impl.Room) { r.Ranks = slices.Insert(r.Ranks, 0, impl.Rank{User: "a", Num: 0}) }},
		{impl.Entry{Kind: 6, User: "zoe", Num: 4}, func(r *impl.Room) { r.Ranks = append(r.Ranks, impl.Rank{User: "zoe", Num: 4}) }},
		{impl.Entry{Kind: 6, User: "bob", Num: 2}, func(r *impl.Room) { r.Ranks[1].Num = 2 }},
		{impl.Entry{Kind: 6, User: "ann", Num: 4}, func(r *impl.Room) {}},
		{impl.Entry{Kind: 6, User: "eve", Num: 1}, func(r *impl.Room) { r.Ranks = r.Ranks[:3] }},
		{impl.Entry{Kind: 6, User: "bob", Num: 1}, func(r *impl.Room) { r.Ranks = slices.Delete(r.Ranks, 1, 2) }},
		{impl.Entry{Kind: 6, User: "dan", Num: 1}, func(r *impl.Room) {}},
	} {
		want := withRoom(c.change)
		want.Next = 21
		c.e.Room, c.e.Seq = "den", 20
		if got, ok := impl.RoomApply(den(), c.e); !ok || !sameRoom(got, want) {
			t.Errorf("RoomApply of %+v is %+v, %v", c.e, got, ok)
		}
	}
}

func checkNotApplied(t *testing.T, r impl.Room, e impl.Entry) {
	t.Helper()
	was := cloneRoom(r)
	if got, ok := impl.RoomApply(r, e); ok || !sameRoom(got, was) {
		t.Errorf("RoomApply(%+v, %+v) is %+v, %v", was, e, got, ok)
	}
}

func TestRoomApplyOfWhatCannotBe(t *testing.T) {
	for _, e := range entryCases {
		if _, ok := impl.RoomApply(den(), e); !ok {
			t.Errorf("RoomApply of %+v is false", e)
		}
		for _, change := range []func(e *impl.Entry){
			func(e *impl.Entry) { e.Seq-- }, func(e *impl.Entry) { e.Seq++ }, func(e *impl.Entry) { e.Seq = 0 },
			func(e *impl.Entry) { e.Room = "hall" }, func(e *impl.Entry) { e.Room = "" }, func(e *impl.Entry) { e.Room = "Den" },
			func(e *impl.Entry) { e.Kind = 0 }, func(e *impl.Entry) { e.Kind = 7 }, func(e *impl.Entry) { e.User = "" }, func(e *impl.Entry) { e.Num = 9 },
		} {
			wrong := e
			change(&wrong)
			checkNotApplied(t, den(), wrong)
		}
		if e.Kind == impl.EntryJoin || e.Kind == impl.EntryRank {
			continue
		}
		for _, who := range [][2]string{{"fay", "Fay"}, {"fay", "Cyd"}, {"cyd", "Fay"}, {"cyd", "Dan"}, {"eve", "Eve"}, {"cyd", "cyd"}} {
			e.User, e.Nick = who[0], who[1]
			checkNotApplied(t, den(), e)
		}
	}
	for _, r := range roomsNotOk() {
		for _, e := range entryCases {
			e.Room, e.Seq = r.Name, r.Next
			if got, ok := impl.RoomApply(r, e); ok || !isNoRoom(got) {
				t.Errorf("RoomApply(%+v, %+v) is %+v, %v", r, e, got, ok)
			}
		}
	}
}

// Entries that are ok, behind which the room would not be.
func TestRoomApplyLeavesARoomOk(t *testing.T) {
	entry := func(kind int, user, nick string, num int) impl.Entry {
		return impl.Entry{Room: "den", Seq: 20, Kind: kind, User: user, Nick: nick, Num: num}
	}
	full := withRoom(func(r *impl.Room) { r.Members, r.Ranks = fiveMembers(), sixRanks() })
	for _, c := range []struct {
		r impl.Room
		e impl.Entry
	}{
		{den(), entry(1, "ann", "Other", 2)},
		{den(), entry(1, "ann", "Ann", 2)},
		{den(), entry(1, "fay", "Ann", 2)},
		{den(), entry(1, "eve", "Eve", 2)},
		{den(), entry(6, "ann", "", 3)},
		{den(), entry(6, "ann", "", 1)},
		{den(), entry(6, "dan", "", 0)},
		{den(), entry(6, "bob", "", 0)},
		{full, entry(1, "k", "K", 2)},
		{full, entry(6, "g", "", 2)},
		{full, entry(6, "d", "", 2)},
	} {
		if !impl.RoomOk(c.r) || !impl.EntryOk(c.e) {
			t.Fatal(c)
		}
		checkNotApplied(t, c.r, c.e)
	}
	for _, e := range []impl.Entry{entry(6, "e", "", 1), entry(6, "g", "", 1), entry(6, "e", "", 4), entry(2, "f", "F", 0)} {
		if got, ok := impl.RoomApply(full, e); !ok || !impl.RoomOk(got) {
			t.Errorf("RoomApply(%+v, %+v) is %+v, %v", full, e, got, ok)
		}
	}
}

// Of a room in which nothing happened the first thing is that somebody owns it.
func TestRoomApplyOfAnUntouchedRoom(t *testing.T) {
	r := impl.Room{Name: "den"}
	for num := range 5 {
		e := impl.Entry{Room: "den", Kind: impl.EntryRank, User: "ann", Num: num}
		if num != impl.RankOwner {
			checkNotApplied(t, r, e)
		} else if got, ok := impl.RoomApply(r, e); !ok || !sameRoom(got, with1Rank("ann", 4)) {
			t.Errorf("RoomApply of %+v is %+v, %v", e, got, ok)
		}
	}
	for _, e := range entryCases[:5] {
		e.Seq = 0
		checkNotApplied(t, r, e)
	}
}

func TestRoomApplyAtTheLastNumber(t *testing.T) {
	e := impl.Entry{Room: "den", Seq: 9998, Kind: impl.EntrySubject, User: "ann", Nick: "Ann", Text: "x", Id: "m"}
	r := withRoom(func(r *impl.Room) { r.Next = 9998 })
	got, ok := impl.RoomApply(r, e)
	if !ok || got.Next != 9999 || !impl.RoomOk(got) {
		t.Error(got, ok)
	}
	e.Seq = 9999
	checkNotApplied(t, got, e)
}

// entry is an entry that may be the next of a room.
func (d dice) entry(r impl.Room) impl.Entry {
	e := impl.Entry{Room: r.Name, Seq: r.Next, Kind: 1 + d.IntN(6), User: someUsers[d.IntN(len(someUsers))], Nick: someNicks[d.IntN(len(someNicks))]}
	if len(r.Members) > 0 && d.IntN(4) > 0 {
		m := r.Members[d.IntN(len(r.Members))]
		e.User, e.Nick = m.User, m.Nick
	}
	if e.Kind == impl.EntryJoin {
		e.User, e.Nick = someUsers[d.IntN(len(someUsers))], someNicks[d.IntN(len(someNicks))]
	}
	switch e.Kind {
	case impl.EntryTalk, impl.EntrySubject:
		e.Text, e.Id = "hi", "m"
	case impl.EntryRank:
		e.Nick, e.Num = "", d.IntN(5)
	default:
		e.Num = d.IntN(4)
	}
	switch d.IntN(30) {
	case 0:
		e.Seq += d.IntN(3) - 1
	case 1:
		e.Room = "hall"
	case 2:
		*entryField(&e, d.IntN(6)) = []string{"", "x"}[d.IntN(2)]
	}
	return e
}

func TestP20WhatHappensLeavesARoomThatIsOk(t *testing.T) {
	d := newDice()
	done := [7]int{}
	for range 30000 {
		r := d.room()
		e := d.entry(r)
		got, ok := impl.RoomApply(r, e)
		if !ok {
			if !sameRoom(got, r) {
				t.Fatalf("RoomApply(%+v, %+v) is %+v, false", r, e, got)
			}
			continue
		}
		done[e.Kind]++
		if !impl.RoomOk(got) || got.Next != r.Next+1 || e.Seq != r.Next || got.Name != r.Name || !impl.EntryOk(e) {
			t.Fatalf("RoomApply(%+v, %+v) is %+v", r, e, got)
		}
		if again, ok := impl.RoomApply(got, e); ok || !sameRoom(again, got) {
			t.Fatalf("RoomApply(%+v, %+v) is true again: %+v", got, e, again)
		}
	}
	for kind, n := range done[1:] {
		if n < 100 {
			t.Errorf("only %d of kind %d happened", n, kind+1)
		}
	}
}

// scribbleRoom writes over all memory of a room's lists, spare room included.
func scribbleRoom(r impl.Room) {
	for i := range r.Members[:cap(r.Members)] {
		r.Members[:cap(r.Members)][i] = impl.Member{User: "changed"}
	}
	for i := range r.Ranks[:cap(r.Ranks)] {
		r.Ranks[:cap(r.Ranks)][i] = impl.Rank{User: "changed"}
	}
}

// shareText says whether one of some texts lies where one of the others does.
func shareText(some, others []string) bool {
	return slices.ContainsFunc(some, func(a string) bool {
		return slices.ContainsFunc(others, func(b string) bool { return a != "" && b != "" && unsafe.StringData(a) == unsafe.StringData(b) })
	})
}

func textsOfRoom(r impl.Room) []string {
	list := []string{r.Name, r.Subject}
	for _, m := range r.Members {
		list = append(list, m.User, m.Nick)
	}
	for _, k := range r.Ranks {
		list = append(list, k.User)
	}
	return list
}

func textsOfEntries(entries ...impl.Entry) []string {
	var list []string
	for _, e := range entries {
		for i := range 6 {
			list = append(list, *entryField(&e, i))
		}
	}
	return list
}

// roomy is a room whose lists have spare room behind them, in which marks stand.
func roomy(r impl.Room) impl.Room {
	n, k := len(r.Members), len(r.Ranks)
	r.Members = append(slices.Clone(r.Members), impl.Member{User: "mark"}, impl.Member{User: "mark"})[:n]
	r.Ranks = append(slices.Clone(r.Ranks), impl.Rank{User: "mark"}, impl.Rank{User: "mark"})[:k]
	return r
}

func marksStand(r impl.Room) bool {
	n, k := len(r.Members), len(r.Ranks)
	return r.Members[:n+2][n].User == "mark" && r.Members[:n+2][n+1].User == "mark" && r.Ranks[:k+2][k].User == "mark" && r.Ranks[:k+2][k+1].User == "mark"
}

func TestRoomApplySharesNoMemory(t *testing.T) {
	entries := append(slices.Clone(entryCases), impl.Entry{}, impl.Entry{Room: "den", Seq: 20, Kind: 6, User: "a", Num: 2}, impl.Entry{Room: "den", Seq: 20, Kind: 6, User: "cyd", Num: 1}, impl.Entry{Room: "den", Seq: 20, Kind: 6, User: "ann", Num: 3})
	for _, e := range entries {
		r := roomy(den())
		got, _ := impl.RoomApply(r, e)
		if shareText(textsOfRoom(got), append(textsOfRoom(r), textsOfEntries(e)...)) {
			t.Errorf("the answer of RoomApply of %+v shares a text", e)
		}
		if !sameRoom(r, den()) || !marksStand(r) {
			t.Errorf("RoomApply of %+v changed the room to %+v", e, r)
		}
		scribbleRoom(got)
		if !sameRoom(r, den()) || !marksStand(r) {
			t.Errorf("the answer of RoomApply of %+v shares memory with the room", e)
		}
	}
}
