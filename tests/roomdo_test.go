package tests

import (
	"slices"
	"strings"
	"testing"

	"loop.example/hubbub/impl"
)

func sayJoin(nick string) impl.Say {
	return impl.Say{Kind: impl.SayJoin, Room: "den", Nick: nick}
}

func sayLeave() impl.Say {
	return impl.Say{Kind: impl.SayLeave, Room: "den"}
}

func sayTalk(ref string) impl.Say {
	return impl.Say{Kind: impl.SayTalk, Room: "den", Id: "m9", Text: "hi", Ref: ref}
}

func saySubject() impl.Say {
	return impl.Say{Kind: impl.SaySubject, Room: "den", Id: "m9", Text: "new"}
}

func sayRole(nick string, num int) impl.Say {
	return impl.Say{Kind: impl.SayRole, Room: "den", Id: "m9", Nick: nick, Num: num}
}

func sayRank(name string, num int) impl.Say {
	return impl.Say{Kind: impl.SayRank, Room: "den", Id: "m9", Name: name, Num: num}
}

// numbered is entries of a room, one behind the other from a number on.
func numbered(room string, from int, list ...impl.Entry) []impl.Entry {
	for i := range list {
		list[i].Room, list[i].Seq = room, from+i
	}
	return list
}

// applyAll is a room behind all entries, and whether each of them happens.
func applyAll(r impl.Room, list []impl.Entry) (impl.Room, bool) {
	for _, e := range list {
		next, ok := impl.RoomApply(r, e)
		if !ok {
			return next, false
		}
		r = next
	}
	return r, true
}

func checkDone(t *testing.T, r impl.Room, log []impl.Entry, user string, s impl.Say, want ...impl.Entry) {
	t.Helper()
	numbered(r.Name, r.Next, want...)
	if got, code := impl.RoomDo(r, log, user, s); code != impl.ErrFine || !slices.Equal(got, want) {
		t.Errorf("RoomDo of %s, %+v, in %+v, is %+v, %d", user, s, r, got, code)
	}
	if _, ok := applyAll(r, want); !ok {
		t.Errorf("RoomApply refuses one of %+v", want)
	}
}

func checkCode(t *testing.T, r impl.Room, log []impl.Entry, user string, s impl.Say, want int) {
	t.Helper()
	if got, code := impl.RoomDo(r, log, user, s); code != want || len(got) != 0 {
		t.Errorf("RoomDo of %s, %+v, in %+v, is %+v, %d, not %d", user, s, r, got, code, want)
	}
}

func TestRoomDoJoins(t *testing.T) {
	owns := impl.Entry{Kind: impl.EntryRank, User: "fay", Num: impl.RankOwner}
	joins := func(role int) impl.Entry {
		return impl.Entry{Kind: impl.EntryJoin, User: "fay", Nick: "Fay", Num: role}
	}
	checkDone(t, impl.Room{Name: "den"}, nil, "fay", sayJoin("Fay"), owns, joins(3))
	for rank, role := range []int{1: 2, 2: 2, 3: 3, 4: 3} {
		if rank == impl.RankOut {
			continue
		}
		r := withRoom(func(r *impl.Room) {
			if rank != impl.RankNone {
				r.Ranks = append(r.Ranks, impl.Rank{User: "fay", Num: rank})
			}
		})
		checkDone(t, r, nil, "fay", sayJoin("Fay"), joins(role))
		// A room may have ranks, and be new all the same.
		r.Next = 0
		checkDone(t, r, nil, "fay", sayJoin("Fay"), owns, joins(3))
	}
}

func TestRoomDoJoinCodes(t *testing.T) {
	full := withRoom(func(r *impl.Room) { r.Members = fiveMembers() })
	checkCode(t, den(), nil, "eve", sayJoin("Eve"), impl.ErrOut)
	checkCode(t, den(), nil, "eve", sayJoin("Ann"), impl.ErrOut)
	checkCode(t, full, nil, "eve", sayJoin("F"), impl.ErrOut)
	checkCode(t, den(), nil, "ann", sayJoin("Other"), impl.ErrThere)
	checkCode(t, den(), nil, "ann", sayJoin("Ann"), impl.ErrThere)
	checkCode(t, den(), nil, "ann", sayJoin("Bob"), impl.ErrThere)
	checkCode(t, full, nil, "f", sayJoin("X"), impl.ErrThere)
	checkCode(t, den(), nil, "fay", sayJoin("Ann"), impl.ErrNick)
	checkCode(t, full, nil, "ann", sayJoin("F"), impl.ErrNick)
	checkCode(t, full, nil, "ann", sayJoin("Ann"), impl.ErrFull)
	full.Members = full.Members[:4]
	checkDone(t, full, nil, "ann", sayJoin("Ann"), impl.Entry{Kind: 1, User: "ann", Nick: "Ann", Num: 3})
	// Nicks are the same just if all bytes are.
	checkDone(t, den(), nil, "fay", sayJoin("ann"), impl.Entry{Kind: 1, User: "fay", Nick: "ann", Num: 2})
}

// In a new room that is full of ranks nobody can be the owner who has none.
func TestRoomDoJoinsANewRoomFullOfRanks(t *testing.T) {
	r := impl.Room{Name: "den", Ranks: sixRanks()}
	checkCode(t, r, nil, "g", sayJoin("G"), impl.ErrFull)
	checkDone(t, r, nil, "b", sayJoin("B"), impl.Entry{Kind: 6, User: "b", Num: 4}, impl.Entry{Kind: 1, User: "b", Nick: "B", Num: 3})
	r.Next = 1
	checkDone(t, r, nil, "g", sayJoin("G"), impl.Entry{Kind: 1, User: "g", Nick: "G", Num: 2})
}

func TestRoomDoLeaves(t *testing.T) {
	for _, m := range den().Members {
		checkDone(t, den(), nil, m.User, sayLeave(), impl.Entry{Kind: 2, User: m.User, Nick: m.Nick, Num: impl.LeaveSelf})
	}
}

func TestRoomDoTalks(t *testing.T) {
	checkDone(t, den(), nil, "ann", sayTalk(""), impl.Entry{Kind: 3, User: "ann", Nick: "Ann", Text: "hi", Id: "m9"})
	checkDone(t, den(), nil, "cyd", sayTalk(""), impl.Entry{Kind: 3, User: "cyd", Nick: "Cyd", Text: "hi", Id: "m9"})
	checkCode(t, den(), nil, "dan", sayTalk(""), impl.ErrMay)
	checkCode(t, den(), nil, "dan", sayTalk("m1"), impl.ErrMay)
	checkCode(t, den(), nil, "cyd", sayTalk("m1"), impl.ErrRef)
	said := impl.Entry{Room: "den", Seq: 7, Kind: 3, User: "cyd", Nick: "C", Text: "ho", Id: "m1"}
	again := impl.Entry{Kind: 3, User: "cyd", Nick: "Cyd", Text: "hi", Id: "m9", Ref: "m1"}
	checkDone(t, den(), []impl.Entry{said}, "cyd", sayTalk("m1"), again)
	var others []impl.Entry
	for _, change := range []func(e *impl.Entry){
		func(e *impl.Entry) { e.Kind = 4 }, func(e *impl.Entry) { e.Room = "hall" }, func(e *impl.Entry) { e.User = "ann" },
		func(e *impl.Entry) { e.Id = "m2" }, func(e *impl.Entry) { e.Ref = "m0" }, func(e *impl.Entry) { e.Id, e.Ref = "m2", "m1" },
	} {
		other := said
		change(&other)
		checkCode(t, den(), []impl.Entry{other}, "cyd", sayTalk("m1"), impl.ErrRef)
		others = append(others, other)
	}
	checkCode(t, den(), others, "cyd", sayTalk("m1"), impl.ErrRef)
	checkDone(t, den(), slices.Insert(others, 3, said), "cyd", sayTalk("m1"), again)
	checkDone(t, den(), others, "cyd", sayTalk(""), impl.Entry{Kind: 3, User: "cyd", Nick: "Cyd", Text: "hi", Id: "m9"})
	checkCode(t, den(), []impl.Entry{said}, "dan", sayTalk("m1"), impl.ErrMay)
}

func TestRoomDoSubject(t *testing.T) {
	for _, m := range den().Members {
		if m.Role != impl.RoleMod {
			checkCode(t, den(), nil, m.User, saySubject(), impl.ErrMay)
			continue
		}
		checkDone(t, den(), nil, m.User, saySubject(), impl.Entry{Kind: 4, User: m.User, Nick: m.Nick, Text: "new", Id: "m9"})
	}
	// The same again is said again.
	r := withRoom(func(r *impl.Room) { r.Subject = "new" })
	checkDone(t, r, nil, "ann", saySubject(), impl.Entry{Kind: 4, User: "ann", Nick: "Ann", Text: "new", Id: "m9"})
}

// ranked is a room with an owner who is not there, and two who are.
func ranked(rank1, role1, rank2, role2 int) impl.Room {
	r := impl.Room{Name: "den", Next: 5, Ranks: []impl.Rank{{User: "a", Num: 4}}}
	for _, k := range []impl.Rank{{User: "b", Num: rank1}, {User: "c", Num: rank2}} {
		if k.Num != impl.RankNone {
			r.Ranks = append(r.Ranks, k)
		}
	}
	r.Members = []impl.Member{{User: "b", Nick: "B", Role: role1}, {User: "c", Nick: "C", Role: role2}}
	return r
}

// What comes of SayRole, for each number 0 to 3: m is ErrMay, a point nothing, a plus an entry; by the role that one had, 1 to 3.
var (
	roleLow  = []string{"+.++", "++.+", "+++."}
	roleHigh = []string{"mmm+", "mmm+", "mmm."}
	roleNot  = []string{"mmmm", "mmmm", "mmmm"}
)

// Each rank of the user, 1 to 4, against each rank of the other one, 1 to 4.
var roleTable = [][][]string{
	{roleLow, roleNot, roleNot, roleNot},
	{roleLow, roleLow, roleNot, roleNot},
	{roleLow, roleLow, roleHigh, roleNot},
	{roleLow, roleLow, roleHigh, roleHigh},
}

func checkSign(t *testing.T, sign byte, r impl.Room, user string, s impl.Say, want ...impl.Entry) {
	t.Helper()
	switch sign {
	case 'm':
		checkCode(t, r, nil, user, s, impl.ErrMay)
	case '.':
		checkDone(t, r, nil, user, s)
	default:
		checkDone(t, r, nil, user, s, want...)
	}
}

func TestRoomDoRoleOfEachRank(t *testing.T) {
	for i, row := range roleTable {
		for k, cell := range row {
			for role := 1; role <= 3; role++ {
				for num := range 4 {
					r := ranked(i+1, 3, k+1, role)
					want := impl.Entry{Kind: impl.EntryRole, User: "c", Nick: "C", Num: num}
					if num == impl.RoleNone {
						want = impl.Entry{Kind: impl.EntryLeave, User: "c", Nick: "C", Num: impl.LeaveKick}
					}
					checkSign(t, cell[role-1][num], r, "b", sayRole("C", num), want)
					for _, own := range []int{1, 2} {
						r := ranked(i+1, own, k+1, role)
						checkCode(t, r, nil, "b", sayRole("C", num), impl.ErrMay)
						checkCode(t, r, nil, "b", sayRole("X", num), impl.ErrMay)
					}
					checkCode(t, r, nil, "b", sayRole("X", num), impl.ErrWho)
					checkCode(t, r, nil, "b", sayRole("a", num), impl.ErrWho)
				}
			}
		}
	}
}

// Who may change roles may change their own, too, but not from RankAdmin on.
func TestRoomDoRoleOfOneself(t *testing.T) {
	for rank := 1; rank <= 4; rank++ {
		r := ranked(rank, 3, 1, 1)
		for num := range 4 {
			want := impl.Entry{Kind: impl.EntryRole, User: "b", Nick: "B", Num: num}
			if num == impl.RoleNone {
				want = impl.Entry{Kind: impl.EntryLeave, User: "b", Nick: "B", Num: impl.LeaveKick}
			}
			checkSign(t, []string{"+++.", "+++.", "mmm.", "mmm."}[rank-1][num], r, "b", sayRole("B", num), want)
		}
	}
}

// What comes of SayRank, for each number 0 to 4, as above; by the rank of the user, 1 to 4, and by that of the other one, 0 to 4.
var rankTable = [][]string{
	{"mmmmm", "mmmmm", "mmmmm", "mmmmm", "mmmmm"},
	{"mmmmm", "mmmmm", "mmmmm", "mmmmm", "mmmmm"},
	{".++mm", "+.+mm", "++.mm", "mmmmm", "mmmmm"},
	{".++++", "+.+++", "++.++", "+++.+", "++++."},
}

func TestRoomDoRankOfEachRank(t *testing.T) {
	for i, row := range rankTable {
		for was, signs := range row {
			for num := range 5 {
				// The user's role changes nothing.
				for own := 1; own <= 3; own++ {
					r := ranked(i+1, own, was, 2)
					r.Members = r.Members[:1]
					checkSign(t, signs[num], r, "b", sayRank("c", num), impl.Entry{Kind: impl.EntryRank, User: "c", Num: num})
				}
			}
		}
	}
}

// Who is there is put out, or made to rule, at once.
func TestRoomDoRankOfOneWhoIsThere(t *testing.T) {
	for i, row := range rankTable {
		for was := 1; was <= 4; was++ {
			for num := range 5 {
				for role := 1; role <= 3; role++ {
					list := []impl.Entry{{Kind: impl.EntryRank, User: "c", Num: num}}
					if num == impl.RankOut {
						list = slices.Insert(list, 0, impl.Entry{Kind: impl.EntryLeave, User: "c", Nick: "C", Num: impl.LeaveOut})
					}
					if num >= impl.RankAdmin && role != impl.RoleMod {
						list = append(list, impl.Entry{Kind: impl.EntryRole, User: "c", Nick: "C", Num: impl.RoleMod})
					}
					checkSign(t, row[was][num], ranked(i+1, 3, was, role), "b", sayRank("c", num), list...)
				}
			}
		}
	}
}

func TestRoomDoRankOfOneself(t *testing.T) {
	for rank := 1; rank <= 4; rank++ {
		for num := range 5 {
			list := []impl.Entry{{Kind: impl.EntryRank, User: "b", Num: num}}
			if num == impl.RankOut {
				list = slices.Insert(list, 0, impl.Entry{Kind: impl.EntryLeave, User: "b", Nick: "B", Num: impl.LeaveOut})
			}
			if num == impl.RankAdmin {
				list = append(list, impl.Entry{Kind: impl.EntryRole, User: "b", Nick: "B", Num: impl.RoleMod})
			}
			checkSign(t, []string{"mmmmm", "mmmmm", "mmmmm", "++++."}[rank-1][num], ranked(rank, 2, 1, 1), "b", sayRank("b", num), list...)
		}
	}
}

func TestRoomDoRankCodes(t *testing.T) {
	// The only owner stays one, whoever asks.
	checkCode(t, den(), nil, "cyd", sayRank("ann", 0), impl.ErrMay)
	checkCode(t, den(), nil, "bob", sayRank("ann", 3), impl.ErrMay)
	for num := range 4 {
		checkCode(t, den(), nil, "ann", sayRank("ann", num), impl.ErrLast)
	}
	checkDone(t, den(), nil, "ann", sayRank("ann", 4))
	two := withRoom(func(r *impl.Room) { r.Ranks[1].Num = 4 })
	checkDone(t, two, nil, "ann", sayRank("ann", 2), impl.Entry{Kind: 6, User: "ann", Num: 2})
	checkDone(t, two, nil, "bob", sayRank("ann", 0), impl.Entry{Kind: 2, User: "ann", Nick: "Ann", Num: 2}, impl.Entry{Kind: 6, User: "ann", Num: 0})
	// There are RankMax ranks, and no place for one more.
	full := impl.Room{Name: "den", Next: 9, Ranks: sixRanks(), Members: []impl.Member{{User: "c", Nick: "C", Role: 2}, {User: "d", Nick: "D", Role: 2}, {User: "g", Nick: "G", Role: 2}}}
	for _, num := range []int{0, 2, 3, 4} {
		checkCode(t, full, nil, "d", sayRank("g", num), impl.ErrFull)
		checkCode(t, full, nil, "d", sayRank("h", num), impl.ErrFull)
	}
	checkCode(t, full, nil, "c", sayRank("h", 2), impl.ErrFull)
	checkCode(t, full, nil, "c", sayRank("h", 3), impl.ErrMay)
	checkCode(t, full, nil, "g", sayRank("h", 2), impl.ErrMay)
	checkDone(t, full, nil, "d", sayRank("g", 1))
	checkDone(t, full, nil, "d", sayRank("a", 2), impl.Entry{Kind: 6, User: "a", Num: 2})
	checkDone(t, full, nil, "d", sayRank("a", 1), impl.Entry{Kind: 6, User: "a", Num: 1})
	checkCode(t, full, nil, "d", sayRank("d", 1), impl.ErrLast)
	full.Ranks = full.Ranks[:5]
	checkDone(t, full, nil, "d", sayRank("g", 0), impl.Entry{Kind: 2, User: "g", Nick: "G", Num: 2}, impl.Entry{Kind: 6, User: "g", Num: 0})
}

// roomSays is something of each kind that a room listens to.
func roomSays() []impl.Say {
	return []impl.Say{sayJoin("Fay"), sayLeave(), sayTalk(""), sayTalk("m1"), saySubject(), sayRole("Cyd", 1), sayRole("Fay", 0), sayRank("cyd", 2), sayRank("fay", 0)}
}

func TestRoomDoForm(t *testing.T) {
	for _, s := range roomSays() {
		for _, user := range append([]string{""}, badUsers...) {
			checkCode(t, den(), nil, user, s, impl.ErrForm)
		}
		for _, r := range roomsNotOk() {
			s.Room = r.Name
			checkCode(t, r, nil, "ann", s, impl.ErrForm)
		}
		for _, room := range []string{"hall", "de", "denn", "", "Den"} {
			s.Room = room
			checkCode(t, den(), nil, "ann", s, impl.ErrForm)
		}
	}
	for _, c := range sayCases {
		if c.say.Kind < impl.SayJoin || c.say.Kind > impl.SayRank {
			checkCode(t, den(), nil, "ann", c.say, impl.ErrForm)
		}
	}
	for _, s := range []impl.Say{
		{}, {Kind: 13, Room: "den"}, {Kind: -1, Room: "den"}, sayJoin(""), sayJoin(" x"), sayJoin("abcdefghijk"), sayTalk("a b"), sayRole("Cyd", 4), sayRole("Cyd", -1), sayRole("", 1), sayRank("cyd", 5), sayRank("cyd", -1), sayRank("", 2), sayRank("Cyd", 2),
		{Kind: impl.SayLeave, Room: "den", Id: "m9"}, {Kind: impl.SayTalk, Room: "den", Id: "m9"}, {Kind: impl.SayTalk, Room: "den", Text: "hi"}, {Kind: impl.SaySubject, Room: "den", Id: "m9", Text: strings.Repeat("x", 61)},
	} {
		checkCode(t, den(), nil, "ann", s, impl.ErrForm)
		// That is looked for ahead of all others.
		checkCode(t, withRoom(func(r *impl.Room) { r.Next = 9999 }), nil, "ann", s, impl.ErrForm)
		checkCode(t, den(), nil, "fay", s, impl.ErrForm)
	}
}

// A room in which three more things have no place takes nothing more, whoever says what.
func TestRoomDoAtTheLastNumbers(t *testing.T) {
	for _, next := range []int{9997, 9998, 9999} {
		r := withRoom(func(r *impl.Room) { r.Next = next })
		for _, s := range append(roomSays(), sayJoin("Ann")) {
			for _, user := range []string{"ann", "bob", "cyd", "dan", "eve", "fay"} {
				checkCode(t, r, nil, user, s, impl.ErrFull)
			}
		}
	}
	r := withRoom(func(r *impl.Room) { r.Next = 9996 })
	checkDone(t, r, nil, "ann", sayRank("dan", 3), impl.Entry{Kind: 6, User: "dan", Num: 3}, impl.Entry{Kind: 5, User: "dan", Nick: "Dan", Num: 3})
	checkCode(t, r, nil, "eve", sayJoin("Eve"), impl.ErrOut)
	checkCode(t, r, nil, "fay", sayTalk(""), impl.ErrHere)
}

func TestRoomDoOfWhoIsNotThere(t *testing.T) {
	for _, user := range []string{"eve", "fay", "an", "annn", "zoe"} {
		for _, s := range roomSays()[1:] {
			checkCode(t, den(), nil, user, s, impl.ErrHere)
			checkCode(t, impl.Room{Name: "den"}, nil, user, s, impl.ErrHere)
		}
	}
	// An owner who is not there is no other one.
	r := withRoom(func(r *impl.Room) { r.Members = r.Members[1:] })
	for _, s := range roomSays()[1:] {
		checkCode(t, r, nil, "ann", s, impl.ErrHere)
	}
}

// order is something that a user says to a room.
func (d dice) order() (string, impl.Say) {
	user, nick, name := someUsers[d.IntN(len(someUsers))], someNicks[d.IntN(len(someNicks))], someUsers[d.IntN(len(someUsers))]
	switch d.IntN(10) {
	case 0, 1:
		return user, sayJoin(nick)
	case 2:
		return user, sayLeave()
	case 3:
		return user, sayTalk([]string{"", "m9", "m1"}[d.IntN(3)])
	case 4:
		return user, saySubject()
	case 5, 6:
		return user, sayRole(nick, d.IntN(4))
	}
	return user, sayRank(name, d.IntN(5))
}

// turn is what a user said to a room, and what came of it.
type turn struct {
	room  impl.Room
	log   []impl.Entry
	user  string
	say   impl.Say
	list  []impl.Entry
	code  int
	after impl.Room
}

// turns plays: in rooms of all kinds, and in rooms from their beginning on.
func turns(t *testing.T) []turn {
	d := newDice()
	var all []turn
	for range 250 {
		r, log := d.room(), []impl.Entry(nil)
		if d.IntN(2) == 0 {
			r = impl.Room{Name: "den"}
		}
		for range 60 {
			x := turn{room: r, log: slices.Clone(log)}
			x.user, x.say = d.order()
			if len(r.Members) > 0 && d.IntN(2) == 0 {
				x.user = r.Members[d.IntN(len(r.Members))].User
			}
			x.list, x.code = impl.RoomDo(r, log, x.user, x.say)
			after, ok := applyAll(r, x.list)
			if !ok || !impl.RoomOk(after) {
				t.Fatalf("RoomDo of %s, %+v, in %+v, is %+v, of which RoomApply refuses one", x.user, x.say, r, x.list)
			}
			x.after = after
			all = append(all, x)
			r, log = after, append(log, x.list...)
		}
	}
	return all
}

func memberOf(r impl.Room, user string) (impl.Member, bool) {
	at := slices.IndexFunc(r.Members, func(m impl.Member) bool { return m.User == user })
	if at < 0 {
		return impl.Member{}, false
	}
	return r.Members[at], true
}

func rankIn(r impl.Room, user string) int {
	for _, k := range r.Ranks {
		if k.User == user {
			return k.Num
		}
	}
	return impl.RankNone
}

func TestP21WhatIsSaidHappens(t *testing.T) {
	codes := [12]int{}
	for _, x := range turns(t) {
		codes[x.code]++
		if len(x.list) > 3 || x.code != impl.ErrFine && len(x.list) > 0 {
			t.Fatalf("%+v", x)
		}
		for i, e := range x.list {
			if !impl.EntryOk(e) || e.Room != x.room.Name || e.Seq != x.room.Next+i {
				t.Fatalf("%+v", x)
			}
		}
	}
	for code, n := range codes[:11] {
		if code != impl.ErrForm && n < 10 {
			t.Errorf("only %d of code %d", n, code)
		}
	}
}

func TestP22WhoIsNotThereCanOnlyCome(t *testing.T) {
	for _, x := range turns(t) {
		_, was := memberOf(x.room, x.user)
		_, is := memberOf(x.after, x.user)
		if x.say.Kind == impl.SayJoin {
			if x.code == impl.ErrFine && (was || !is) {
				t.Fatalf("%+v", x)
			}
			continue
		}
		if !was && x.code != impl.ErrHere && x.code != impl.ErrFull || was && x.code == impl.ErrHere {
			t.Fatalf("%+v", x)
		}
	}
}

func TestP23WhoCameCannotComeAgain(t *testing.T) {
	for _, x := range turns(t) {
		_, is := memberOf(x.after, x.user)
		if x.say.Kind == impl.SayLeave && x.code == impl.ErrFine && is {
			t.Fatalf("%+v", x)
		}
		if x.say.Kind != impl.SayJoin || x.code != impl.ErrFine || x.after.Next > 9996 {
			continue
		}
		checkCode(t, x.after, x.log, x.user, x.say, impl.ErrThere)
		checkCode(t, x.after, x.log, x.user, sayJoin("Zoe"), impl.ErrThere)
		checkCode(t, x.after, x.log, "zoe", x.say, impl.ErrNick)
		list, code := impl.RoomDo(x.after, x.log, x.user, sayLeave())
		gone, _ := applyAll(x.after, list)
		if _, is := memberOf(gone, x.user); is || code != impl.ErrFine {
			t.Fatalf("SayLeave of %s in %+v is %+v, %d", x.user, x.after, list, code)
		}
	}
}

func TestP24WhoMayNotRuleChangesNothing(t *testing.T) {
	for _, x := range turns(t) {
		if x.code != impl.ErrFine {
			continue
		}
		self, _ := memberOf(x.room, x.user)
		rank := rankIn(x.room, x.user)
		may := true
		switch x.say.Kind {
		case impl.SayTalk:
			may = self.Role >= impl.RolePart
		case impl.SaySubject, impl.SayRole:
			may = self.Role == impl.RoleMod
		case impl.SayRank:
			high := x.say.Num >= impl.RankAdmin || rankIn(x.room, x.say.Name) >= impl.RankAdmin
			may = rank >= impl.RankAdmin && (!high || rank == impl.RankOwner)
		}
		if !may {
			t.Fatalf("%+v", x)
		}
		for _, k := range x.room.Ranks {
			if x.say.Kind != impl.SayRank && x.room.Next > 0 && rankIn(x.after, k.User) != k.Num {
				t.Fatalf("a rank is another one: %+v", x)
			}
		}
		if x.say.Kind != impl.SaySubject && x.after.Subject != x.room.Subject {
			t.Fatalf("the subject is another one: %+v", x)
		}
	}
}

func TestP25ARoomHasAnOwner(t *testing.T) {
	for _, x := range turns(t) {
		owns := slices.ContainsFunc(x.after.Ranks, func(k impl.Rank) bool { return k.Num == impl.RankOwner })
		if !owns && x.after.Next > 0 {
			t.Fatalf("%+v", x)
		}
	}
}

func TestP26WhoIsOutcastIsNotThere(t *testing.T) {
	put := 0
	for _, x := range turns(t) {
		for _, k := range x.after.Ranks {
			if k.Num != impl.RankOut {
				continue
			}
			if _, is := memberOf(x.after, k.User); is {
				t.Fatalf("%+v", x)
			}
			if x.after.Next <= 9996 {
				checkCode(t, x.after, x.log, k.User, sayJoin("Zoe"), impl.ErrOut)
			}
		}
		if _, was := memberOf(x.room, x.say.Name); was && x.code == impl.ErrFine && x.say.Kind == impl.SayRank && x.say.Num == impl.RankOut {
			put++
			if left := x.list[0]; len(x.list) != 2 || left.Kind != impl.EntryLeave || left.Num != impl.LeaveOut || left.User != x.say.Name {
				t.Fatalf("%+v", x)
			}
		}
	}
	if put < 15 {
		t.Errorf("only %d were put out while there", put)
	}
}

func TestP27WhatChangesNothingMakesNothing(t *testing.T) {
	made := 0
	for _, x := range turns(t) {
		if x.code != impl.ErrFine || x.say.Kind != impl.SayRole && x.say.Kind != impl.SayRank {
			continue
		}
		made += len(x.list)
		if list, _ := impl.RoomDo(x.after, x.log, x.user, x.say); len(list) != 0 {
			t.Fatalf("%+v makes %+v again", x, list)
		}
	}
	if made < 500 {
		t.Errorf("only %d entries were made", made)
	}
}

func TestRoomDoSharesNoMemory(t *testing.T) {
	log := []impl.Entry{{Room: "den", Seq: 1, Kind: 3, User: "ann", Nick: "Ann", Text: "ho", Id: "m1"}, {Room: "mark"}, {Room: "mark"}}
	was, user := slices.Clone(log), "ann"
	for _, s := range append(roomSays(), sayRank("dan", 3), sayRank("dan", 0)) {
		r := roomy(den())
		first, _ := impl.RoomDo(r, log[:1], user, s)
		if shareText(textsOfEntries(first...), append(textsOfRoom(r), user, s.Nick, s.Name, s.Id, s.Ref, s.Text)) {
			t.Errorf("the answer of RoomDo of %+v shares a text", s)
		}
		want := slices.Clone(first)
		for i := range first[:cap(first)] {
			first[:cap(first)][i] = impl.Entry{Room: "changed"}
		}
		if !sameRoom(r, den()) || !marksStand(r) || !slices.Equal(log, was) {
			t.Errorf("RoomDo of %+v changed the room to %+v, the log to %+v", s, r, log)
		}
		if again, _ := impl.RoomDo(r, log[:1], user, s); !slices.Equal(again, want) {
			t.Errorf("two answers share memory: %+v", again)
		}
	}
}
