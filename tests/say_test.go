package tests

import (
	"slices"
	"strings"
	"testing"

	"loop.example/hubbub/impl"
)

// The kinds and limits are the document's: other tests take them by name.
func TestSayNumbers(t *testing.T) {
	kinds := []int{impl.SayLogin, impl.SayOn, impl.SayAck, impl.SayHow, impl.SayResume, impl.SayJoin, impl.SayLeave, impl.SayTalk, impl.SaySubject, impl.SayRole, impl.SayRank, impl.SayPage}
	if !slices.Equal(kinds, []int{1, 2, 3, 4, 5, 6, 7, 8, 9, 10, 11, 12}) {
		t.Error(kinds)
	}
	roles := [4]int{impl.RoleNone, impl.RoleVisit, impl.RolePart, impl.RoleMod}
	ranks := [5]int{impl.RankOut, impl.RankNone, impl.RankMember, impl.RankAdmin, impl.RankOwner}
	limits := [5]int{impl.WordMax, impl.BodyMax, impl.PageMax, impl.SeqMax, impl.CountMod}
	if roles != [4]int{0, 1, 2, 3} || ranks != [5]int{0, 1, 2, 3, 4} || limits != [5]int{12, 60, 4, 9999, 256} {
		t.Error(roles, ranks, limits)
	}
}

const roomTo = " to='den@rooms.local'"

// What is said, and the tree that says it.
var sayCases = []struct {
	say  impl.Say
	text string
}{
	{impl.Say{Kind: 1, Name: "ann", Text: "pw"}, "<auth pass='pw' user='ann'/>"},
	{impl.Say{Kind: 1, Name: "a.b-c_d0", Text: "!~<&>'\"abcde"}, "<auth pass='!~&lt;&amp;&gt;&apos;&quot;abcde' user='a.b-c_d0'/>"},
	{impl.Say{Kind: 2}, "<enable/>"},
	{impl.Say{Kind: 3}, "<a h='0'/>"},
	{impl.Say{Kind: 3, Num: 255}, "<a h='255'/>"},
	{impl.Say{Kind: 4}, "<r/>"},
	{impl.Say{Kind: 5, Ref: "ann-0"}, "<resume h='0' id='ann-0'/>"},
	{impl.Say{Kind: 5, Ref: "abcdefghijkl", Num: 255}, "<resume h='255' id='abcdefghijkl'/>"},
	{impl.Say{Kind: 6, Room: "den", Nick: "Bo"}, "<presence to='den@rooms.local/Bo'/>"},
	{impl.Say{Kind: 6, Room: "abcdefgh", Nick: "a/@ <'é>"}, "<presence to='abcdefgh@rooms.local/a/@ &lt;&apos;é&gt;'/>"},
	{impl.Say{Kind: 7, Room: "den"}, "<presence" + roomTo + " type='unavailable'/>"},
	{impl.Say{Kind: 8, Room: "den", Id: "m1", Text: "a<b"}, "<message id='m1'" + roomTo + " type='groupchat'><body>a&lt;b</body></message>"},
	{impl.Say{Kind: 8, Room: "den", Id: "m1", Text: " "}, "<message id='m1'" + roomTo + " type='groupchat'><body> </body></message>"},
	{impl.Say{Kind: 8, Room: "den", Id: "m1", Text: "\n\té", Ref: "m0"}, "<message id='m1'" + roomTo + " type='groupchat'><body>&#10;&#9;é</body><replace id='m0'/></message>"},
	{impl.Say{Kind: 9, Room: "den", Id: "s", Text: "what"}, "<message id='s'" + roomTo + " type='groupchat'><subject>what</subject></message>"},
	{impl.Say{Kind: 10, Room: "den", Id: "q", Nick: "Bo", Num: 0}, "<iq id='q'" + roomTo + " type='set'><role nick='Bo' role='none'/></iq>"},
	{impl.Say{Kind: 10, Room: "den", Id: "q", Nick: "Bo", Num: 1}, "<iq id='q'" + roomTo + " type='set'><role nick='Bo' role='visitor'/></iq>"},
	{impl.Say{Kind: 10, Room: "den", Id: "q", Nick: "Bo", Num: 2}, "<iq id='q'" + roomTo + " type='set'><role nick='Bo' role='part'/></iq>"},
	{impl.Say{Kind: 10, Room: "den", Id: "q", Nick: "Bo", Num: 3}, "<iq id='q'" + roomTo + " type='set'><role nick='Bo' role='mod'/></iq>"},
	{impl.Say{Kind: 11, Room: "den", Id: "q", Name: "ann", Num: 0}, "<iq id='q'" + roomTo + " type='set'><rank rank='outcast' user='ann'/></iq>"},
	{impl.Say{Kind: 11, Room: "den", Id: "q", Name: "ann", Num: 1}, "<iq id='q'" + roomTo + " type='set'><rank rank='none' user='ann'/></iq>"},
	{impl.Say{Kind: 11, Room: "den", Id: "q", Name: "ann", Num: 2}, "<iq id='q'" + roomTo + " type='set'><rank rank='member' user='ann'/></iq>"},
	{impl.Say{Kind: 11, Room: "den", Id: "q", Name: "ann", Num: 3}, "<iq id='q'" + roomTo + " type='set'><rank rank='admin' user='ann'/></iq>"},
	{impl.Say{Kind: 11, Room: "den", Id: "q", Name: "ann", Num: 4}, "<iq id='q'" + roomTo + " type='set'><rank rank='owner' user='ann'/></iq>"},
	{impl.Say{Kind: 12, Room: "den", Id: "q", Num: 1, From: -1, Back: -1}, "<iq id='q'" + roomTo + " type='get'><page max='1'/></iq>"},
	{impl.Say{Kind: 12, Room: "den", Id: "q", Num: 4, From: 0, Back: -1}, "<iq id='q'" + roomTo + " type='get'><page after='0' max='4'/></iq>"},
	{impl.Say{Kind: 12, Room: "den", Id: "q", Num: 2, From: -1, Back: 0}, "<iq id='q'" + roomTo + " type='get'><page before='0' max='2'/></iq>"},
	{impl.Say{Kind: 12, Room: "den", Id: "q", Name: "ann", Num: 2, From: 9999, Back: -1}, "<iq id='q'" + roomTo + " type='get'><page after='9999' max='2' with='ann'/></iq>"},
	{impl.Say{Kind: 12, Room: "den", Id: "q", Name: "ann", Num: 2, From: -1, Back: 9999}, "<iq id='q'" + roomTo + " type='get'><page before='9999' max='2' with='ann'/></iq>"},
}

func TestSayPutAndGet(t *testing.T) {
	for _, c := range sayCases {
		tree := impl.SayPut(c.say)
		if got := impl.TreePut(tree); got != c.text || !impl.SayOk(c.say) {
			t.Errorf("SayPut(%v) is %q, SayOk %v", c.say, got, impl.SayOk(c.say))
		}
		if got, ok := impl.SayGet(read(t, c.text)); !ok || got != c.say {
			t.Errorf("SayGet of %q is %v, %v", c.text, got, ok)
		}
	}
}

// read is the tree of a text that is one.
func read(t *testing.T, text string) []impl.Node {
	t.Helper()
	tree, code := impl.TreeGet(text)
	if code != impl.XmlFine {
		t.Fatalf("%q is no tree, by %d", text, code)
	}
	return tree
}

// field is one of the texts of what is said, by its place.
func field(s *impl.Say, i int) *string {
	return []*string{&s.Room, &s.Nick, &s.Name, &s.Id, &s.Ref, &s.Text}[i]
}

// number is one of the numbers of what is said, by its place.
func number(s *impl.Say, i int) *int {
	return []*int{&s.Num, &s.From, &s.Back}[i]
}

func checkNotSaid(t *testing.T, s impl.Say) {
	t.Helper()
	if impl.SayOk(s) || impl.SayPut(s) != nil {
		t.Errorf("SayOk(%+v) is %v, SayPut %v", s, impl.SayOk(s), impl.SayPut(s))
	}
}

// Each kind with one thing more, and with one thing less.
func TestSayHasJustItsThings(t *testing.T) {
	for _, c := range sayCases {
		for i := range 6 {
			s := c.say
			had := *field(&s, i) != ""
			*field(&s, i) = "x"
			if !had && !(c.say.Kind == impl.SayTalk && i == 4) && !(c.say.Kind == impl.SayPage && i == 2) {
				checkNotSaid(t, s)
			}
			*field(&s, i) = ""
			if had && !(c.say.Kind == impl.SayTalk && i == 4) && !(c.say.Kind == impl.SayPage && i == 2) {
				checkNotSaid(t, s)
			}
		}
		counts := slices.Contains([]int{impl.SayAck, impl.SayResume, impl.SayRole, impl.SayRank, impl.SayPage}, c.say.Kind)
		for i := range 3 {
			for _, n := range []int{-1, 1, 3} {
				s := c.say
				*number(&s, i) = n
				if i == 0 && !counts || i > 0 && c.say.Kind != impl.SayPage {
					checkNotSaid(t, s)
				}
			}
		}
	}
	for _, kind := range []int{-1, 0, 13, 14, 256} {
		for _, c := range sayCases {
			s := c.say
			s.Kind = kind
			checkNotSaid(t, s)
		}
		checkNotSaid(t, impl.Say{Kind: kind})
	}
}

// The texts of each kind, at their edges.
func TestSayTexts(t *testing.T) {
	full := strings.Repeat("x", 60)
	words := []string{"a", "!", "~", "<>&'\"|\\;:/@.", "abcdefghijkl"}
	notWords := []string{" ", "a b", "a ", "\x7f", "é", "abcdefghijklm", "a\n", "\x1f", "a\x00", "\xff"}
	bodies := []string{"a", " ", "\n", "\t", full, strings.Repeat("é", 30), strings.Repeat("'", 60), "\x7f", "\ufffd", "\U0010ffff"}
	notBodies := []string{full + "x", strings.Repeat("é", 30) + "x", "\x00", "\r", "a\xff", "\xc3", "\ufffe", "\x1f"}
	for _, c := range []struct {
		at   int
		kind []int
		good []string
		bad  []string
	}{
		{0, []int{6, 7, 8, 9, 10, 11, 12}, goodUsers, badUsers},
		{1, []int{6, 10}, goodNicks, badNicks},
		{2, []int{1, 11, 12}, goodUsers, badUsers},
		{3, []int{8, 9, 10, 11, 12}, words, notWords},
		{4, []int{5, 8}, words, notWords},
		{5, []int{1}, words, notWords},
		{5, []int{8, 9}, bodies, notBodies},
	} {
		for _, say := range sayCases {
			s := say.say
			if !slices.Contains(c.kind, s.Kind) {
				continue
			}
			for _, text := range c.good {
				*field(&s, c.at) = text
				if got, ok := impl.SayGet(impl.SayPut(s)); !impl.SayOk(s) || !ok || got != s {
					t.Errorf("SayGet of SayPut(%+v) is %+v, %v", s, got, ok)
				}
			}
			for _, text := range c.bad {
				*field(&s, c.at) = text
				checkNotSaid(t, s)
			}
		}
	}
}

// The numbers of each kind, at their edges.
func TestSayCounts(t *testing.T) {
	for _, c := range []struct{ kind, least, most int }{{3, 0, 255}, {5, 0, 255}, {10, 0, 3}, {11, 0, 4}, {12, 1, 4}} {
		for _, say := range sayCases {
			s := say.say
			if s.Kind != c.kind {
				continue
			}
			for n := c.least; n <= c.most; n++ {
				s.Num = n
				if got, ok := impl.SayGet(impl.SayPut(s)); !impl.SayOk(s) || !ok || got != s {
					t.Errorf("SayGet of SayPut(%+v) is %+v, %v", s, got, ok)
				}
			}
			for _, n := range []int{c.least - 1, c.most + 1, -256, 1 << 40} {
				s.Num = n
				checkNotSaid(t, s)
			}
		}
	}
	page := impl.Say{Kind: impl.SayPage, Room: "den", Id: "q", Num: 1}
	for _, from := range []int{-2, -1, 0, 1, 9998, 9999, 10000} {
		for _, back := range []int{-2, -1, 0, 1, 9998, 9999, 10000} {
			page.From, page.Back = from, back
			want := from >= -1 && from <= 9999 && back >= -1 && back <= 9999 && (from == -1 || back == -1)
			if impl.SayOk(page) != want || (impl.SayPut(page) != nil) != want {
				t.Errorf("SayOk(%+v) is %v", page, impl.SayOk(page))
			}
		}
	}
}

// Trees that say what is said in another way than SayPut's.
func TestSayGetReadsMore(t *testing.T) {
	talk := impl.Say{Kind: impl.SayTalk, Room: "den", Id: "m1", Text: "hi", Ref: "m0"}
	join := impl.Say{Kind: impl.SayJoin, Room: "den", Nick: "BO"}
	for _, c := range []struct {
		text string
		say  impl.Say
	}{
		{"<message xmlns='urn:c' type='groupchat' to='DEN@Rooms.LOCAL' id='m1'><body>h&#105;</body><replace id='m0'></replace></message>", talk},
		{"<message xmlns='urn:c' id='m1'" + roomTo + " type='groupchat'><body xmlns='urn:c'>hi</body><replace id='m0'/></message>", talk},
		{"<message xmlns='urn:c' id='m1'" + roomTo + " type='groupchat'><body xmlns=''>hi</body><replace id='m0'/></message>", talk},
		{"<presence to='Den@rooms.local/BO'/>", join},
		{"<presence xmlns='\n' to='den@ROOMS.local/BO'/>", join},
		{"<r xmlns='urn:c'/>", impl.Say{Kind: impl.SayHow}},
		{"<r></r>", impl.Say{Kind: impl.SayHow}},
	} {
		if got, ok := impl.SayGet(read(t, c.text)); !ok || got != c.say {
			t.Errorf("SayGet of %q is %+v, %v", c.text, got, ok)
		}
	}
}

var saysNothing = []string{
	"<x/>", "<A h='1'/>", "<R/>", "<stream/>", "<body>x</body>", "<role nick='Bo' role='mod'/>", "<page max='1'/>",
	"<auth/>", "<auth pass='pw'/>", "<auth user='ann'/>", "<auth pass='' user='ann'/>", "<auth pass='pw' user=''/>", "<auth pass='p w' user='ann'/>", "<auth pass='pw' user='Ann'/>", "<auth pass='pw' user='ann'>x</auth>", "<auth pass='pw' user='ann'><r/></auth>", "<auth Pass='pw' user='ann'/>",
	"<enable x='1'/>", "<enable> </enable>", "<enable><r/></enable>", "<enable to='den@rooms.local'/>",
	"<a/>", "<a h=''/>", "<a h='256'/>", "<a h='-1'/>", "<a h='01'/>", "<a h='00'/>", "<a h='-0'/>", "<a h='+1'/>", "<a h=' 1'/>", "<a h='1 '/>", "<a h='x'/>", "<a h='0x1'/>", "<a h='1_0'/>", "<a h='1.0'/>", "<a h='99999999999999999999'/>", "<a h='18446744073709551616'/>", "<a H='1'/>", "<a h='1' i='1'/>", "<a h='1'>1</a>", "<a i='1'/>",
	"<r x='1'/>", "<r xmlns='q' x='1'/>", "<r>x</r>",
	"<resume/>", "<resume h='1'/>", "<resume id='k'/>", "<resume h='256' id='k'/>", "<resume h='1' id=''/>", "<resume h='1' id='a b'/>", "<resume h='01' id='k'/>", "<resume h='1' id='k' x=''/>", "<resume h='1' id='k'><r/></resume>",
	"<presence/>", "<presence to=''/>", "<presence to='den@rooms.local'/>", "<presence to='rooms.local/Bo'/>", "<presence to='den@other.local/Bo'/>", "<presence to='den@rooms.locals/Bo'/>", "<presence to='den@rooms.local/'/>", "<presence to='den@rooms.local/ Bo'/>", "<presence to='den@rooms.local/Bo' x='1'/>", "<presence to='den@rooms.local/Bo'>x</presence>", "<presence to='den@rooms.local/Bo' type='available'/>", "<presence to='den@rooms.local/Bo' type=''/>",
	"<presence to='den@rooms.local/Bo' type='unavailable'/>", "<presence to='den@rooms.local' type='Unavailable'/>", "<presence to='den@other' type='unavailable'/>", "<presence to='rooms.local' type='unavailable'/>", "<presence type='unavailable'/>", "<presence to='den@rooms.local' type='unavailable' x='1'/>", "<presence to='den@rooms.local' type='unavailable'><r/></presence>", "<presence to='den@rooms.local' unavailable='type'/>",
	"<message id='m1'" + roomTo + " type='groupchat'/>", "<message id='m1'" + roomTo + " type='groupchat'><body/></message>", "<message id='m1'" + roomTo + " type='groupchat'>x</message>", "<message id='m1'" + roomTo + " type='groupchat'>x<body>x</body></message>",
	"<message id='m1'" + roomTo + " type='groupchat'><body>x</body> </message>", "<message id='m1'" + roomTo + " type='groupchat'> <body>x</body></message>", "<message id='m1'" + roomTo + " type='groupchat'><body>x</body><body>x</body></message>", "<message id='m1'" + roomTo + " type='groupchat'><body>x<r/></body></message>", "<message id='m1'" + roomTo + " type='groupchat'><body><r/>x</body></message>", "<message id='m1'" + roomTo + " type='groupchat'><body y='1'>x</body></message>", "<message id='m1'" + roomTo + " type='groupchat'><text>x</text></message>",
	"<message id='m1'" + roomTo + " type='groupchat'><body>x</body><replace/></message>", "<message id='m1'" + roomTo + " type='groupchat'><body>x</body><replace id=''/></message>", "<message id='m1'" + roomTo + " type='groupchat'><body>x</body><replace id='a b'/></message>", "<message id='m1'" + roomTo + " type='groupchat'><body>x</body><replace id='m0' x='1'/></message>", "<message id='m1'" + roomTo + " type='groupchat'><body>x</body><replace id='m0'>x</replace></message>", "<message id='m1'" + roomTo + " type='groupchat'><body>x</body><replace id='m0'/><replace id='m0'/></message>", "<message id='m1'" + roomTo + " type='groupchat'><body>x</body><other id='m0'/></message>", "<message id='m1'" + roomTo + " type='groupchat'><replace id='m0'/><body>x</body></message>", "<message id='m1'" + roomTo + " type='groupchat'><body>x<replace id='m0'/></body></message>",
	"<message id='m1'" + roomTo + " type='groupchat'><subject>x</subject><replace id='m0'/></message>", "<message id='m1'" + roomTo + " type='groupchat'><subject>x</subject><body>x</body></message>", "<message id='m1'" + roomTo + " type='groupchat'><body>x</body><subject>x</subject></message>", "<message id='m1'" + roomTo + " type='groupchat'><subject/></message>",
	"<message id='m1'" + roomTo + "><body>x</body></message>", "<message id='m1'" + roomTo + " type='chat'><body>x</body></message>", "<message" + roomTo + " type='groupchat'><body>x</body></message>", "<message id='' to='den@rooms.local' type='groupchat'><body>x</body></message>", "<message id='m1' type='groupchat'><body>x</body></message>", "<message id='m1' to='den@rooms.local/Bo' type='groupchat'><body>x</body></message>", "<message id='m1' to='den@rooms.local' type='groupchat' x=''><body>x</body></message>", "<message id='m 1' to='den@rooms.local' type='groupchat'><body>x</body></message>",
	"<message xmlns='q' id='m1'" + roomTo + " type='groupchat'><body xmlns='r'>x</body></message>", "<message id='m1'" + roomTo + " type='groupchat'><body xmlns='r'>x</body></message>",
	"<iq id='q'" + roomTo + " type='set'/>", "<iq id='q'" + roomTo + " type='set'>x</iq>", "<iq id='q'" + roomTo + " type='set'><r/></iq>", "<iq id='q'" + roomTo + " type='get'><role nick='Bo' role='mod'/></iq>", "<iq id='q'" + roomTo + " type='set'><role nick='Bo' role='king'/></iq>", "<iq id='q'" + roomTo + " type='set'><role nick='Bo' role=''/></iq>", "<iq id='q'" + roomTo + " type='set'><role nick='Bo'/></iq>", "<iq id='q'" + roomTo + " type='set'><role role='mod'/></iq>", "<iq id='q'" + roomTo + " type='set'><role nick=' Bo' role='mod'/></iq>", "<iq id='q'" + roomTo + " type='set'><role nick='Bo' role='mod' x=''/></iq>", "<iq id='q'" + roomTo + " type='set'><role nick='Bo' role='mod'>x</role></iq>", "<iq id='q'" + roomTo + " type='set'><role nick='Bo' role='mod'/> </iq>", "<iq id='q'" + roomTo + " type='set'><role nick='Bo' role='mod'/><role nick='Bo' role='mod'/></iq>", "<iq id='q'" + roomTo + " type='set'><role nick='Bo' role='owner'/></iq>", "<iq id='q'" + roomTo + " type='set'><role nick='Bo' role='3'/></iq>", "<iq id='q'" + roomTo + " type='set'><role nick='Bo' role='Mod'/></iq>", "<iq" + roomTo + " type='set'><role nick='Bo' role='mod'/></iq>", "<iq id='q' to='den@rooms.local/Bo' type='set'><role nick='Bo' role='mod'/></iq>", "<iq id='q' type='set'><role nick='Bo' role='mod'/></iq>",
	"<iq id='q'" + roomTo + " type='set'><rank rank='mod' user='ann'/></iq>", "<iq id='q'" + roomTo + " type='set'><rank rank='owner'/></iq>", "<iq id='q'" + roomTo + " type='set'><rank user='ann'/></iq>", "<iq id='q'" + roomTo + " type='set'><rank rank='owner' user='Ann'/></iq>", "<iq id='q'" + roomTo + " type='get'><rank rank='owner' user='ann'/></iq>", "<iq id='q'" + roomTo + " type='set'><rank rank='owner' user='ann' x='1'/></iq>", "<iq id='q'" + roomTo + " type='set'><rank nick='Bo' role='mod'/></iq>", "<iq id='q'" + roomTo + " type='set'>x<rank rank='owner' user='ann'/></iq>",
	"<iq id='q'" + roomTo + " type='get'><page/></iq>", "<iq id='q'" + roomTo + " type='set'><page max='1'/></iq>", "<iq id='q'" + roomTo + " type='get'><page max='0'/></iq>", "<iq id='q'" + roomTo + " type='get'><page max='5'/></iq>", "<iq id='q'" + roomTo + " type='get'><page max='01'/></iq>", "<iq id='q'" + roomTo + " type='get'><page after='-1' max='1'/></iq>", "<iq id='q'" + roomTo + " type='get'><page before='-1' max='1'/></iq>", "<iq id='q'" + roomTo + " type='get'><page after='x' max='1'/></iq>", "<iq id='q'" + roomTo + " type='get'><page after='' max='1'/></iq>", "<iq id='q'" + roomTo + " type='get'><page before='' max='1'/></iq>", "<iq id='q'" + roomTo + " type='get'><page after='10000' max='1'/></iq>", "<iq id='q'" + roomTo + " type='get'><page before='10000' max='1'/></iq>", "<iq id='q'" + roomTo + " type='get'><page after='1' before='2' max='1'/></iq>", "<iq id='q'" + roomTo + " type='get'><page after='1' before='-1' max='1'/></iq>", "<iq id='q'" + roomTo + " type='get'><page max='1' with=''/></iq>", "<iq id='q'" + roomTo + " type='get'><page max='1' with='Ann'/></iq>", "<iq id='q'" + roomTo + " type='get'><page max='1' x=''/></iq>", "<iq id='q'" + roomTo + " type='get'><page max='1'>x</page></iq>", "<iq id='q'" + roomTo + " type='get'><page max='1'/>x</iq>", "<iq id='q'" + roomTo + " type='get'><page after='01' max='1'/></iq>",
	"<iq id='q'" + roomTo + " type='get'>x<page max='1'/></iq>", "<iq xmlns='q' id='q'" + roomTo + " type='get'><page xmlns='r' max='1'/></iq>",
}

func checkSaysNothing(t *testing.T, tree []impl.Node) {
	t.Helper()
	if got, ok := impl.SayGet(tree); ok || got != (impl.Say{}) {
		t.Errorf("SayGet of %q, %v, is %+v, %v", impl.TreePut(tree), tree, got, ok)
	}
}

func TestTreesThatSayNothing(t *testing.T) {
	for _, text := range saysNothing {
		checkSaysNothing(t, read(t, text))
	}
	checkSaysNothing(t, nil)
	checkSaysNothing(t, []impl.Node{})
}

// Nodes that are no tree say nothing, even where they look like SayPut's.
func TestNodesThatAreNoTree(t *testing.T) {
	for _, list := range [][]impl.Node{
		{{Up: 0, Name: "r"}},
		{{Up: -1, Text: "r"}},
		{{Up: -1, Name: "r", Space: "\xff"}},
		{{Up: -1, Name: "r", Text: "x"}},
		{{Up: -1, Name: "r"}, {Up: -1, Name: "r"}},
		{{Up: -1, Name: "r", Space: strings.Repeat("x", impl.TreeMax)}},
		{{Up: -1, Name: "auth", Attrs: attrs("user", "ann", "pass", "pw")}},
		{{Up: -1, Name: "a", Attrs: attrs("h", "1", "h", "1")}},
		{{Up: -1, Name: "enable"}, {Up: 0, Text: ""}},
	} {
		if impl.TreeOk(list) {
			t.Fatalf("%v is a tree", list)
		}
		checkSaysNothing(t, list)
	}
}

// The Space of a tree counts towards what is ok, though it says nothing.
func TestSayGetOfAFullTree(t *testing.T) {
	space := strings.Repeat("s", impl.TreeMax-len("<r xmlns=''/>"))
	if got, ok := impl.SayGet([]impl.Node{{Up: -1, Name: "r", Space: space}}); !ok || got != (impl.Say{Kind: impl.SayHow}) {
		t.Error(got, ok)
	}
	checkSaysNothing(t, []impl.Node{{Up: -1, Name: "r", Space: space + "s"}})
}

// oneThingMore is a tree in all ways with one attribute, text or element more.
func oneThingMore(tree []impl.Node) [][]impl.Node {
	var all [][]impl.Node
	for i, n := range tree {
		if n.Name == "" {
			continue
		}
		for _, name := range []string{"A", "aa", "idd", "zz"} {
			more := cloneTree(tree)
			at, _ := slices.BinarySearchFunc(n.Attrs, name, func(a impl.Attr, s string) int { return strings.Compare(a.Name, s) })
			more[i].Attrs = slices.Insert(more[i].Attrs, at, impl.Attr{Name: name, Text: "1"})
			all = append(all, more)
		}
		for _, node := range []impl.Node{{Up: i, Text: "x"}, {Up: i, Name: "x", Space: n.Space}, {Up: i, Name: "body", Space: n.Space}} {
			more := slices.Insert(cloneTree(tree), i+1, node)
			for k := i + 2; k < len(more); k++ {
				if more[k].Up > i {
					more[k].Up++
				}
			}
			all = append(all, more)
		}
	}
	return append(all, append(cloneTree(tree), impl.Node{Up: 0, Text: " "}), append(cloneTree(tree), impl.Node{Up: 0, Name: "r", Space: tree[0].Space}))
}

// oneThingLess is a tree in all ways without one attribute, or without its last node.
func oneThingLess(tree []impl.Node) [][]impl.Node {
	var all [][]impl.Node
	for i, n := range tree {
		for k := range n.Attrs {
			less := cloneTree(tree)
			less[i].Attrs = slices.Delete(less[i].Attrs, k, k+1)
			all = append(all, less)
		}
	}
	if len(tree) > 1 {
		all = append(all, cloneTree(tree)[:len(tree)-1])
	}
	return all
}

func inSpace(tree []impl.Node, space string) []impl.Node {
	tree = cloneTree(tree)
	for i := range tree {
		if tree[i].Name != "" {
			tree[i].Space = space
		}
	}
	return tree
}

// say is what is said, ok or not.
func (d dice) say() impl.Say {
	s := sayCases[d.IntN(len(sayCases))].say
	for range d.IntN(3) {
		if d.IntN(2) == 0 {
			*field(&s, d.IntN(6)) = []string{"", "a", "den", "Bo b", "a<b", "é", "abcdefghijklm", "m\n"}[d.IntN(8)]
		} else {
			*number(&s, d.IntN(3)) = []int{-2, -1, 0, 1, 2, 3, 4, 5, 255, 256, 9999, 10000}[d.IntN(12)]
		}
	}
	return s
}

func TestP18WhatIsSaidIsReadBack(t *testing.T) {
	d := newDice()
	said := [13]int{}
	for range 20000 {
		s := d.say()
		tree := impl.SayPut(s)
		if impl.SayOk(s) != (tree != nil) {
			t.Fatalf("SayOk(%+v) is %v, SayPut %v", s, impl.SayOk(s), tree)
		}
		if tree == nil {
			continue
		}
		said[s.Kind]++
		if !impl.TreeOk(tree) {
			t.Fatalf("SayPut(%+v) is no tree: %v", s, tree)
		}
		for _, space := range []string{"", "urn:c", "<'\n"} {
			if got, ok := impl.SayGet(inSpace(tree, space)); !ok || got != s {
				t.Fatalf("SayGet of SayPut(%+v), in %q, is %+v, %v", s, space, got, ok)
			}
		}
	}
	for kind, n := range said[1:] {
		if n < 50 {
			t.Errorf("only %d of kind %d were ok", n, kind+1)
		}
	}
}

func TestP19WhatATreeSaysIsOk(t *testing.T) {
	for _, c := range sayCases {
		tree := impl.SayPut(c.say)
		for _, more := range append(oneThingMore(tree), oneThingMore(inSpace(tree, "q"))...) {
			checkSaysNothing(t, more)
		}
		optional := c.say.Ref != "" && c.say.Kind == impl.SayTalk || c.say.Kind == impl.SayPage
		for _, less := range oneThingLess(tree) {
			got, ok := impl.SayGet(less)
			if ok && (!optional || !sameTree(impl.SayPut(got), less)) {
				t.Errorf("SayGet of %v is %+v", less, got)
			}
		}
	}
	d := newDice()
	said := 0
	for range 20000 {
		tree := impl.SayPut(d.say())
		if tree == nil {
			continue
		}
		i := d.IntN(len(tree))
		switch k := d.IntN(4); {
		case k == 0:
			tree[i].Name = d.name()
		case k == 1:
			tree[i].Text = d.text(3)
		case k == 2:
			tree = inSpace(tree, d.space())
			tree[i].Space = d.space()
		case len(tree[i].Attrs) > 0:
			texts := []string{"", "1", "01", "Den@rooms.local", "den@ROOMS.local/Bo", "set", "get", "mod", "owner", "4", "-1"}
			tree[i].Attrs[d.IntN(len(tree[i].Attrs))].Text = texts[d.IntN(len(texts))]
		}
		s, ok := impl.SayGet(tree)
		if !ok {
			continue
		}
		said++
		if again, ok := impl.SayGet(impl.SayPut(s)); !impl.SayOk(s) || !ok || again != s {
			t.Fatalf("SayGet of SayPut(%+v) is %+v, %v", s, again, ok)
		}
	}
	if said < 500 {
		t.Errorf("only %d trees said something", said)
	}
}

func TestSayLeavesArgumentsAlone(t *testing.T) {
	for _, c := range sayCases {
		tree := inSpace(read(t, c.text), "urn:c")
		for k, a := range tree[0].Attrs {
			if a.Name == "to" {
				tree[0].Attrs[k].Text = "DEN" + a.Text[3:]
			}
		}
		was := cloneTree(tree)
		impl.SayGet(tree)
		if !sameTree(tree, was) {
			t.Errorf("SayGet changed %v to %v", was, tree)
		}
	}
}

func TestSayAnswersAreNewMemory(t *testing.T) {
	for _, c := range sayCases {
		want := cloneTree(impl.SayPut(c.say))
		tree := impl.SayPut(c.say)
		for i := range tree {
			room := tree[i].Attrs[:cap(tree[i].Attrs)]
			for k := range room {
				room[k] = impl.Attr{Name: "changed"}
			}
			if !sameTree(tree[i+1:], want[i+1:]) {
				t.Errorf("the attributes of %d are also those of another node", i)
			}
		}
		if again := impl.SayPut(c.say); !sameTree(again, want) {
			t.Errorf("two answers share memory: %v", again)
		}
	}
}
