package tests

import (
	"fmt"
	"math"
	"math/big"
	"math/rand"
	"regexp"
	"slices"
	"strconv"
	"strings"
	"testing"

	"loop.example/g00217/impl"
)

// The numbers of the document, written out again.
const mostSeq = 1000000
const accountsOfBank = 8

// eight has the same number eight times.
func eight(n int64) []int64 {
	return slices.Repeat([]int64{n}, accountsOfBank)
}

// eightWith has 0 but for one account.
func eightWith(account int, n int64) []int64 {
	list := eight(0)
	list[account] = n
	return list
}

func bankWith(money []int64, counts []int64) impl.Bank {
	return impl.Bank{Money: money, Counts: counts}
}

func bankClone(b impl.Bank) impl.Bank {
	return bankWith(slices.Clone(b.Money), slices.Clone(b.Counts))
}

func sameBank(a impl.Bank, b impl.Bank) bool {
	return slices.Equal(a.Money, b.Money) && slices.Equal(a.Counts, b.Counts)
}

func isZeroBank(b impl.Bank) bool {
	return len(b.Money) == 0 && len(b.Counts) == 0
}

// between tells of each number whether it is from 0 to most.
func between(list []int64, most int64) bool {
	for _, n := range list {
		if n < 0 || n > most {
			return false
		}
	}
	return true
}

// bigSum never wraps round.
func bigSum(list []int64) *big.Int {
	sum := new(big.Int)
	for _, n := range list {
		sum.Add(sum, big.NewInt(n))
	}
	return sum
}

func bankByRule(b impl.Bank) bool {
	if len(b.Money) != accountsOfBank || len(b.Counts) != accountsOfBank {
		return false
	}
	return between(b.Money, mostMoney) && between(b.Counts, mostSeq) && bigSum(b.Money).Cmp(big.NewInt(mostMoney)) <= 0
}

func totalByRule(b impl.Bank) int64 {
	if !bankByRule(b) {
		return -1
	}
	return bigSum(b.Money).Int64()
}

func moveByRule(m impl.Move) bool {
	return between([]int64{m.From, m.To}, 7) && m.Sum != 0 && between([]int64{m.Sum}, mostMoney) && between([]int64{m.Count}, mostSeq-1)
}

// moveForm is every text that is a Move's, and no other: it holds the ranges too.
var moveForm = regexp.MustCompile(`^([0-7]) ([0-7]) (1000000000|[1-9][0-9]{0,8}) (0|[1-9][0-9]{0,5})$`)

func readMoveByRule(s string) (impl.Move, bool) {
	words := moveForm.FindStringSubmatch(s)
	if words == nil {
		return impl.Move{}, false
	}
	numbers := []int64{}
	for _, word := range words[1:] {
		n, _ := strconv.Atoi(word)
		numbers = append(numbers, int64(n))
	}
	return impl.Move{From: numbers[0], To: numbers[1], Sum: numbers[2], Count: numbers[3]}, true
}

func movedByRule(b impl.Bank, m impl.Move) (impl.Bank, int64) {
	if !bankByRule(b) || !moveByRule(m) {
		return impl.Bank{}, 1
	}
	if b.Counts[m.From] != m.Count {
		return b, 2
	}
	if b.Money[m.From] < m.Sum {
		return b, 3
	}
	out := bankClone(b)
	for account := range int64(accountsOfBank) {
		if account == m.From {
			out.Counts[account]++
		}
		if account == m.From && account != m.To {
			out.Money[account] = b.Money[account] - m.Sum
		}
		if account == m.To && account != m.From {
			out.Money[account] = b.Money[account] + m.Sum
		}
	}
	return out, 0
}

func movedAllByRule(b impl.Bank, list []string) (impl.Bank, []int64) {
	if !bankByRule(b) {
		return impl.Bank{}, nil
	}
	codes := []int64{}
	for _, s := range list {
		m, is := readMoveByRule(s)
		if !is {
			codes = append(codes, 1)
			continue
		}
		next, code := movedByRule(b, m)
		b, codes = next, append(codes, code)
	}
	return b, codes
}

func rightBanks() map[string]impl.Bank {
	banks := map[string]impl.Bank{
		"new":                     bankWith(eight(1000), eight(0)),
		"nothing":                 bankWith(eight(0), eight(0)),
		"alike, all there may be": bankWith(eight(mostMoney/8), eight(mostSeq)),
		"unlike":                  bankWith([]int64{0, 1, 700, 1300, 5, 99999, 8, 12}, []int64{0, 1, 2, 3, 10, 100, 99999, 7}),
		"one below all":           bankWith([]int64{mostMoney - 8, 1, 1, 1, 1, 1, 1, 1}, eight(5)),
		"just all":                bankWith([]int64{1, 1, 1, 1, mostMoney - 7, 1, 1, 1}, eight(5)),
		"nearly counted out":      bankWith(eight(1000), eight(mostSeq-1)),
		"counted out":             bankWith(eight(1000), eight(mostSeq)),
	}
	for account := range accountsOfBank {
		banks[fmt.Sprint("all in ", account)] = bankWith(eightWith(account, mostMoney), eightWith(account, mostSeq))
		banks[fmt.Sprint("one in ", account)] = bankWith(eightWith(account, 1), eightWith(account, 1))
	}
	return banks
}

// wrongMoney fails in one way each, or by numbers whose sum hides it.
func wrongMoney() map[string][]int64 {
	lists := map[string][]int64{
		"nil":                         nil,
		"none":                        {},
		"one":                         {1000},
		"seven":                       eight(1000)[:7],
		"nine":                        append(eight(1000), 0),
		"sixteen":                     append(eight(1000), eight(1000)...),
		"one too much together":       {mostMoney, 1, 0, 0, 0, 0, 0, 0},
		"one too much at the end":     {0, 0, 0, 0, 0, 0, 1, mostMoney},
		"one too much of all":         {mostMoney - 6, 1, 1, 1, 1, 1, 1, 1},
		"one too much of eighths":     {mostMoney/8 + 1, mostMoney / 8, mostMoney / 8, mostMoney / 8, mostMoney / 8, mostMoney / 8, mostMoney / 8, mostMoney / 8},
		"all of them the most":        eight(mostMoney),
		"more than 32 bits together":  {mostMoney, mostMoney, mostMoney, mostMoney, 294967296, 0, 0, 0},
		"wrapped round to nothing":    eight(1 << 61),
		"wrapped round to 8000":       {math.MaxInt64, math.MaxInt64, 8002, 0, 0, 0, 0, 0},
		"wrapped round below nothing": {math.MaxInt64, 1, 0, 0, 0, 0, 0, 0},
		"one below, and the sum not":  {1001, -1, 1000, 1000, 1000, 1000, 1000, 1000},
		"one past, and the sum not":   {mostMoney + 1, -1, 0, 0, 0, 0, 0, 0},
		"much past, and much below":   {math.MaxInt64, -math.MaxInt64, 0, 0, 0, 0, 0, 0},
	}
	for account := range accountsOfBank {
		for _, n := range []int64{-1, mostMoney + 1, math.MinInt64, math.MaxInt64, 1 << 32, -1 << 32} {
			lists[fmt.Sprint(n, " in ", account)] = eightWith(account, n)
		}
	}
	return lists
}

func wrongCounts() map[string][]int64 {
	lists := map[string][]int64{
		"nil":     nil,
		"none":    {},
		"one":     {0},
		"seven":   eight(0)[:7],
		"nine":    append(eight(0), 0),
		"sixteen": append(eight(0), eight(0)...),
	}
	for account := range accountsOfBank {
		for _, n := range []int64{-1, mostSeq + 1, math.MinInt64, math.MaxInt64, 1 << 32, -1 << 32} {
			lists[fmt.Sprint(n, " of ", account)] = eightWith(account, n)
		}
	}
	return lists
}

func wrongBanks() map[string]impl.Bank {
	banks := map[string]impl.Bank{
		"zero":                 {},
		"both seven":           bankWith(eight(1000)[:7], eight(0)[:7]),
		"both nine":            bankWith(append(eight(1000), 0), append(eight(0), 0)),
		"seven and nine":       bankWith(eight(1000)[:7], append(eight(0), 0)),
		"Counts that are more": bankWith(eight(0), eight(mostMoney)),
	}
	for name, list := range wrongMoney() {
		banks["Money: "+name] = bankWith(list, eight(0))
	}
	for name, list := range wrongCounts() {
		banks["Counts: "+name] = bankWith(eight(1000), list)
	}
	return banks
}

// someBanks are right ones and wrong ones.
func someBanks() map[string]impl.Bank {
	banks := rightBanks()
	for name, b := range wrongBanks() {
		banks["wrong: "+name] = b
	}
	return banks
}

// theMove is right, and each of its fields is unlike the others.
func theMove() impl.Move {
	return impl.Move{From: 1, To: 2, Sum: 30, Count: 4}
}

func rightMoves() []impl.Move {
	moves := []impl.Move{
		theMove(),
		{Sum: 1},
		{From: 7, To: 7, Sum: mostMoney, Count: mostSeq - 1},
	}
	for account := range int64(accountsOfBank) {
		m := theMove()
		m.From = account
		moves = append(moves, m)
		m = theMove()
		m.To = account
		moves = append(moves, m, impl.Move{From: account, To: account, Sum: 5})
	}
	for _, n := range []int64{1, 2, 9, 10, 999999999, mostMoney - 1, mostMoney} {
		m := theMove()
		m.Sum = n
		moves = append(moves, m)
	}
	for _, n := range []int64{0, 1, 9, 10, 99999, 100000, mostSeq - 2, mostSeq - 1} {
		m := theMove()
		m.Count = n
		moves = append(moves, m)
	}
	return moves
}

// wrongMoves fail in one field each, but for the zero Move and one that fails in all.
func wrongMoves() []impl.Move {
	far := []int64{math.MinInt64, math.MaxInt64, -1 << 32, 1 << 32, 1<<32 + 1, math.MinInt64 + 1}
	moves := []impl.Move{{}, {From: -1, To: 8, Sum: 0, Count: -1}}
	for _, n := range append(far, -1, 8, 9, 10, 255, 256) {
		m := theMove()
		m.From = n
		moves = append(moves, m)
		m = theMove()
		m.To = n
		moves = append(moves, m)
	}
	for _, n := range append(far, 0, -1, -30, mostMoney+1) {
		m := theMove()
		m.Sum = n
		moves = append(moves, m)
	}
	for _, n := range append(far, -1, mostSeq, mostSeq+1) {
		m := theMove()
		m.Count = n
		moves = append(moves, m)
	}
	return moves
}

// nearTexts are no Move's, though they are near to one.
func nearTexts() map[string]string {
	return map[string]string{
		"nothing":                      "",
		"a blank":                      " ",
		"three blanks":                 "   ",
		"a number":                     "1",
		"two numbers":                  "1 2",
		"three numbers":                "1 2 3",
		"five numbers":                 "1 2 3 4 5",
		"eight numbers":                "1 2 3 4 1 2 3 4",
		"no blank":                     "1234",
		"two blanks at first":          "1  2 3 4",
		"two blanks in the middle":     "1 2  3 4",
		"two blanks at last":           "1 2 3  4",
		"a blank ahead":                " 1 2 3 4",
		"a blank behind":               "1 2 3 4 ",
		"three numbers, a blank":       "1 2 3 ",
		"a blank, three numbers":       " 1 2 3",
		"a byte 10 ahead":              "\n1 2 3 4",
		"a byte 10 behind":             "1 2 3 4\n",
		"a byte 13 behind":             "1 2 3 4\r",
		"a byte 0 behind":              "1 2 3 4\x00",
		"a byte 10 between":            "1 2\n3 4",
		"a tab between":                "1\t2 3 4",
		"a wide blank between":         "1 2 3\u00a04",
		"commas":                       "1,2,3,4",
		"a comma":                      "1 2 3,4",
		"0 ahead of From":              "01 2 3 4",
		"0 ahead of To":                "1 02 3 4",
		"0 ahead of Sum":               "1 2 03 4",
		"0 ahead of Count":             "1 2 3 04",
		"0 twice as From":              "00 2 3 4",
		"0 twice as Count":             "1 2 3 00",
		"plus ahead of From":           "+1 2 3 4",
		"plus ahead of To":             "1 +2 3 4",
		"plus ahead of Sum":            "1 2 +3 4",
		"plus ahead of Count":          "1 2 3 +4",
		"minus ahead of From":          "-1 2 3 4",
		"minus ahead of To":            "1 -2 3 4",
		"minus ahead of Sum":           "1 2 -3 4",
		"minus ahead of Count":         "1 2 3 -4",
		"minus 0 as From":              "-0 2 3 4",
		"minus 0 as To":                "1 -0 3 4",
		"minus 0 as Count":             "1 2 3 -0",
		"plus 0 as Count":              "1 2 3 +0",
		"a minus alone":                "1 2 3 -",
		"a letter as From":             "a 2 3 4",
		"a letter as To":               "1 b 3 4",
		"a letter as Sum":              "1 2 c 4",
		"a letter as Count":            "1 2 3 d",
		"a letter ahead":               "x1 2 3 4",
		"a letter behind":              "1 2 3 4x",
		"a letter in Sum":              "1 2 3e1 4",
		"a point":                      "1 2 3.0 4",
		"sixteens":                     "1 2 0x3 4",
		"a low line":                   "1 2 3_0 4",
		"another script's digit":       "1 2 \u0663 4",
		"a wide digit":                 "1 2 \uff13 4",
		"From 8":                       "8 2 3 4",
		"From 10":                      "10 2 3 4",
		"To 8":                         "1 8 3 4",
		"To 10":                        "1 10 3 4",
		"Sum 0":                        "1 2 0 4",
		"Sum past MaxMoney":            "1 2 1000000001 4",
		"Sum of 11 digits":             "1 2 10000000000 4",
		"Count MaxSeq":                 "1 2 3 1000000",
		"From past 32 bits":            "4294967297 2 3 4",
		"Sum past 32 bits":             "1 2 4294967299 4",
		"From the greatest int64":      "9223372036854775807 2 3 4",
		"Count the greatest int64":     "1 2 3 9223372036854775807",
		"From past an int64":           "9223372036854775808 2 3 4",
		"To past an int64":             "1 9223372036854775808 3 4",
		"Sum past an int64":            "1 2 9223372036854775808 4",
		"Count past an int64":          "1 2 3 9223372036854775808",
		"Sum below all int64":          "1 2 -9223372036854775809 4",
		"From past 64 bits":            "18446744073709551617 2 3 4",
		"To past 64 bits":              "1 18446744073709551618 3 4",
		"Sum past 64 bits":             "1 2 18446744073709551619 4",
		"Count past 64 bits":           "1 2 3 18446744073709551620",
		"a thousand digits":            "1 2 " + strings.Repeat("9", 1000) + " 4",
		"a thousand 0 ahead":           "1 2 " + strings.Repeat("0", 1000) + "3 4",
		"a thousand blanks":            strings.Repeat(" ", 1000),
		"a thousand numbers":           strings.Repeat("1 ", 1000) + "1",
		"bytes that are no letters":    "\xff \xfe \xfd \xfc",
		"a word":                       "what",
		"four words":                   "from to sum count",
		"signs for blanks":             "1+2+3+4",
		"the zero Move":                "0 0 0 0",
		"in brackets":                  "{1 2 3 4}",
		"two Moves in two lines":       "1 2 3 4\n1 2 3 5",
		"a Move and a line of nothing": "1 2 3 4\n\n",
	}
}

func anyRightBank(source *rand.Rand) impl.Bank {
	left, b := int64(mostMoney), bankWith(eight(0), eight(0))
	if source.Intn(2) == 0 {
		left = source.Int63n(5000)
	}
	for _, account := range source.Perm(accountsOfBank) {
		b.Money[account] = source.Int63n(left + 1)
		left -= b.Money[account]
		b.Counts[account] = []int64{0, 1, 5, source.Int63n(mostSeq), mostSeq - 1, mostSeq}[source.Intn(6)]
	}
	return b
}

// anyMove is right most of the time, and would often be done.
func anyMove(source *rand.Rand, b impl.Bank) impl.Move {
	m := impl.Move{From: source.Int63n(8), To: source.Int63n(8)}
	m.Count, m.Sum = b.Counts[m.From], 1+source.Int63n(b.Money[m.From]+1)
	switch source.Intn(10) {
	case 0:
		m.Count += source.Int63n(3) - 1
	case 1:
		m.Sum = b.Money[m.From] + source.Int63n(3) - 1
	case 2:
		m.Sum = anyMoney(source)
	case 3:
		m.To = source.Int63n(12) - 2
	case 4:
		m.To = m.From
	}
	return m
}

// anyMoveText is mostly a Move's, and sometimes one that is changed in a byte.
func anyMoveText(source *rand.Rand, b impl.Bank) string {
	m := anyMove(source, b)
	text := fmt.Sprint(m.From, " ", m.To, " ", m.Sum, " ", m.Count)
	if source.Intn(8) == 0 {
		text = string(changed(source, []byte(text)))
	}
	return text
}

func wantMoved(t *testing.T, name string, b impl.Bank, m impl.Move, want impl.Bank, wantCode int64) {
	t.Helper()
	got, code := impl.Moved(b, m)
	if code != wantCode || !sameBank(got, want) {
		t.Errorf("%s: %v by %+v: %v and %d, not %v and %d", name, b, m, got, code, want, wantCode)
	}
}

func refuseMoved(t *testing.T, name string, b impl.Bank, m impl.Move) {
	t.Helper()
	got, code := impl.Moved(b, m)
	if code != 1 || !isZeroBank(got) {
		t.Errorf("%s: %v by %+v: %v and %d", name, b, m, got, code)
	}
}

func wantMovedAll(t *testing.T, name string, b impl.Bank, list []string, want impl.Bank, wantCodes []int64) {
	t.Helper()
	got, codes := impl.MovedAll(b, list)
	if !slices.Equal(codes, wantCodes) || !sameBank(got, want) {
		t.Errorf("%s: %v by %q: %v and %v, not %v and %v", name, b, list, got, codes, want, wantCodes)
	}
}

func refuseMove(t *testing.T, name string, s string) {
	t.Helper()
	if m, is := impl.ReadMove(s); is || m != (impl.Move{}) {
		t.Errorf("%s: %q: %+v, %v", name, s, m, is)
	}
}

func TestConstantsOfBanks(t *testing.T) {
	if impl.MvDone != 0 || impl.MvBad != 1 || impl.MvCount != 2 || impl.MvMoney != 3 {
		t.Fatal(impl.MvDone, impl.MvBad, impl.MvCount, impl.MvMoney)
	}
	// They are of no kind of their own, so that they are held against any number.
	var small [4]uint8 = [4]uint8{impl.MvDone, impl.MvBad, impl.MvCount, impl.MvMoney}
	if small != [4]uint8{0, 1, 2, 3} || impl.MaxSeq != mostSeq {
		t.Fatal(small, impl.MaxSeq)
	}
}

func TestBankOkOfRightBanks(t *testing.T) {
	for name, b := range rightBanks() {
		if !impl.BankOk(b) || !bankByRule(b) {
			t.Error(name)
		}
	}
}

func TestBankOkOfWrongBanks(t *testing.T) {
	for name, b := range wrongBanks() {
		if impl.BankOk(b) || bankByRule(b) {
			t.Error(name)
		}
	}
}

// Money and Counts have ranges of their own.
func TestBankOkOfEachNumber(t *testing.T) {
	for account := range accountsOfBank {
		for _, n := range []int64{math.MinInt64, -1, 0, 1, mostSeq - 1, mostSeq, mostSeq + 1, mostMoney - 1, mostMoney, mostMoney + 1, math.MaxInt64} {
			if got := impl.BankOk(bankWith(eightWith(account, n), eight(0))); got != (n >= 0 && n <= 1000000000) {
				t.Errorf("%d in account %d: %v", n, account, got)
			}
			if got := impl.BankOk(bankWith(eight(1000), eightWith(account, n))); got != (n >= 0 && n <= 1000000) {
				t.Errorf("Count %d of account %d: %v", n, account, got)
			}
		}
	}
}

// Two accounts of which each is right and both are too much, wherever they are.
func TestBankOkOfEachTwo(t *testing.T) {
	for one := range accountsOfBank {
		for other := range one {
			for _, n := range []int64{1, 2, mostMoney / 2, mostMoney - 1, mostMoney} {
				money := eightWith(one, n)
				money[other] = mostMoney - n
				if !impl.BankOk(bankWith(money, eight(0))) || impl.Total(bankWith(money, eight(0))) != mostMoney {
					t.Errorf("%v is all, and refused", money)
				}
				money[other]++
				if impl.BankOk(bankWith(money, eight(0))) || impl.Total(bankWith(money, eight(0))) != -1 {
					t.Errorf("%v is one too much, and taken", money)
				}
			}
		}
	}
}

func TestBankOkByRule(t *testing.T) {
	source := rand.New(rand.NewSource(50))
	numbers := []int64{-1, 0, 1, 1000, mostMoney / 8, mostMoney / 2, mostMoney, mostMoney + 1, 1 << 60, 1 << 61, 1 << 62, math.MaxInt64, math.MinInt64}
	right := 0
	for range 40000 {
		b := anyRightBank(source)
		for range source.Intn(4) {
			switch list := [][]int64{b.Money, b.Counts}[source.Intn(2)]; source.Intn(3) {
			case 0:
				list[source.Intn(len(list))] = numbers[source.Intn(len(numbers))]
			case 1:
				list[source.Intn(len(list))] += source.Int63n(5) - 2
			case 2:
				list[source.Intn(len(list))], list[source.Intn(len(list))] = source.Int63n(mostSeq), source.Int63n(mostSeq)
			}
		}
		if source.Intn(20) == 0 {
			b.Money = b.Money[:source.Intn(accountsOfBank)]
		}
		is := bankByRule(b)
		if is {
			right++
		}
		if impl.BankOk(b) != is || impl.Total(b) != totalByRule(b) {
			t.Fatalf("%v: %v, %d", b, impl.BankOk(b), impl.Total(b))
		}
	}
	if right < 10000 || right > 35000 {
		t.Fatal(right)
	}
}

// What lies behind a list is none of it, right or wrong.
func TestBanksKeepOutOfTheSpareRoom(t *testing.T) {
	money, counts := append(eight(1000), -1, mostMoney), append(eight(0), -1, mostSeq+1)
	b := bankWith(money[:8], counts[:8])
	if !impl.BankOk(b) || impl.Total(b) != 8000 {
		t.Error("what is wrong in the room is asked for")
	}
	if impl.BankOk(bankWith(money[:7], counts[:8])) || impl.BankOk(bankWith(money[:8], counts[:7])) {
		t.Error("a number in the room counts")
	}
	wantMoved(t, "with room", b, impl.Move{From: 7, To: 0, Sum: 1}, bankWith([]int64{1001, 1000, 1000, 1000, 1000, 1000, 1000, 999}, eightWith(7, 1)), 0)
	if !slices.Equal(money, append(eight(1000), -1, mostMoney)) || !slices.Equal(counts, append(eight(0), -1, mostSeq+1)) {
		t.Error("the room is taken", money, counts)
	}
}

func TestNewBank(t *testing.T) {
	b := impl.NewBank()
	if !slices.Equal(b.Money, []int64{1000, 1000, 1000, 1000, 1000, 1000, 1000, 1000}) || !slices.Equal(b.Counts, []int64{0, 0, 0, 0, 0, 0, 0, 0}) {
		t.Fatal(b)
	}
	if !impl.BankOk(b) || impl.Total(b) != 8000 {
		t.Fatal(impl.BankOk(b), impl.Total(b))
	}
	other := impl.NewBank()
	if sharesMemory(b, other) {
		t.Fatal("two new banks share memory")
	}
	spoil(b.Money, -7)
	spoil(b.Counts, -7)
	if again := impl.NewBank(); !sameBank(again, bankWith(eight(1000), eight(0))) || !sameBank(other, again) {
		t.Fatal(again, other)
	}
}

func TestMoveOkOfForms(t *testing.T) {
	for _, m := range rightMoves() {
		if !impl.MoveOk(m) || !moveByRule(m) {
			t.Errorf("%+v", m)
		}
	}
	for _, m := range wrongMoves() {
		if impl.MoveOk(m) || moveByRule(m) {
			t.Errorf("%+v", m)
		}
	}
}

// Both ends of each field and one past them, with all of the other fields' ends.
func TestMoveOkAtTheEnds(t *testing.T) {
	right, all := 0, 0
	for _, from := range []int64{-1, 0, 7, 8} {
		for _, to := range []int64{-1, 0, 7, 8} {
			for _, sum := range []int64{0, 1, mostMoney, mostMoney + 1} {
				for _, count := range []int64{-1, 0, mostSeq - 1, mostSeq} {
					m := impl.Move{From: from, To: to, Sum: sum, Count: count}
					want := (from == 0 || from == 7) && (to == 0 || to == 7) && (sum == 1 || sum == mostMoney) && (count == 0 || count == mostSeq-1)
					if got := impl.MoveOk(m); got != want {
						t.Errorf("%+v: %v", m, got)
					}
					if want {
						right++
					}
					all++
				}
			}
		}
	}
	if right != 16 || all != 256 {
		t.Fatal(right, all)
	}
}

func TestShowMoveOfForms(t *testing.T) {
	for want, m := range map[string]impl.Move{
		"1 2 3 4":               {From: 1, To: 2, Sum: 3, Count: 4},
		"4 3 2 1":               {From: 4, To: 3, Sum: 2, Count: 1},
		"0 0 1 0":               {Sum: 1},
		"0 1 300 0":             {To: 1, Sum: 300},
		"7 7 1000000000 999999": {From: 7, To: 7, Sum: mostMoney, Count: mostSeq - 1},
		"7 0 10 100":            {From: 7, Sum: 10, Count: 100},
		"5 5 5 5":               {From: 5, To: 5, Sum: 5, Count: 5},
	} {
		if got := impl.ShowMove(m); got != want {
			t.Errorf("%+v: %q, not %q", m, got, want)
		}
	}
	for _, m := range wrongMoves() {
		if got := impl.ShowMove(m); got != "" {
			t.Errorf("%+v: %q", m, got)
		}
	}
}

// Word by word: each field alone makes its own word.
func TestShowMoveWordByWord(t *testing.T) {
	for _, m := range rightMoves() {
		words := strings.Split(impl.ShowMove(m), " ")
		if !slices.Equal(words, []string{decimal(m.From), decimal(m.To), decimal(m.Sum), decimal(m.Count)}) {
			t.Errorf("%+v: %q", m, words)
		}
	}
}

func TestReadMoveOfShowMove(t *testing.T) {
	for _, m := range rightMoves() {
		if got, is := impl.ReadMove(impl.ShowMove(m)); !is || got != m {
			t.Errorf("%+v: %+v, %v", m, got, is)
		}
	}
	source := rand.New(rand.NewSource(51))
	for range 20000 {
		m := impl.Move{From: source.Int63n(8), To: source.Int63n(8), Sum: 1 + source.Int63n(mostMoney)>>source.Intn(30), Count: source.Int63n(mostSeq) >> source.Intn(20)}
		s := impl.ShowMove(m)
		if want := fmt.Sprint(m.From, " ", m.To, " ", m.Sum, " ", m.Count); s != want {
			t.Fatalf("%+v: %q", m, s)
		}
		if got, is := impl.ReadMove(s); !is || got != m {
			t.Fatalf("%+v: %+v, %v", m, got, is)
		}
	}
	for _, m := range wrongMoves() {
		refuseMove(t, "what is shown of a wrong one", impl.ShowMove(m))
		refuseMove(t, "a wrong one written out", fmt.Sprint(m.From, " ", m.To, " ", m.Sum, " ", m.Count))
	}
}

func TestReadMoveOfNearTexts(t *testing.T) {
	for name, s := range nearTexts() {
		refuseMove(t, name, s)
		if _, is := readMoveByRule(s); is {
			t.Errorf("%s is one by the rule", name)
		}
	}
}

// Parts and lengthenings of a right text: some are right too, and then other Moves.
func TestReadMoveOfPartsAndLengthenings(t *testing.T) {
	texts := []string{"1 2 3 4", "0 1 300 0", "7 7 1000000000 999999", "3 0 12 0", "0 0 1 100000"}
	letters := []string{"0", "1", "9", " ", "+", "-", "x", "\n", "\x00", "\xff", " 1", "00", "0000000", "  "}
	read, refused := 0, 0
	check := func(s string) {
		t.Helper()
		want, is := readMoveByRule(s)
		if got, ok := impl.ReadMove(s); ok != is || got != want {
			t.Errorf("%q: %+v, %v", s, got, ok)
		}
		if is {
			read++
		} else {
			refused++
		}
	}
	for _, s := range texts {
		for from := range s {
			for to := from; to <= len(s); to++ {
				check(s[from:to])
			}
		}
		for at := range len(s) + 1 {
			for _, letter := range letters {
				check(s[:at] + letter + s[at:])
			}
			for b := range 256 {
				check(s[:at] + string([]byte{byte(b)}) + s[at:])
				if at < len(s) {
					check(s[:at] + string([]byte{byte(b)}) + s[at+1:])
				}
			}
			if at < len(s) {
				check(s[:at] + s[at+1:])
			}
		}
	}
	refuseMove(t, "a part", "1 2 3")
	refuseMove(t, "a part with its blank", "1 2 3 ")
	refuseMove(t, "a longer one", "1 2 3 4 5")
	refuseMove(t, "a Count longer by a digit", "7 7 1000000000 9999990")
	if m, is := impl.ReadMove("1 2 3 45"); !is || m != (impl.Move{From: 1, To: 2, Sum: 3, Count: 45}) {
		t.Error("a lengthening that is another Move", m, is)
	}
	if read < 300 || refused < 10000 {
		t.Fatal(read, refused)
	}
}

// All short texts over a few letters: one is read just where it is of the form.
func TestReadMoveOfAllShortTexts(t *testing.T) {
	// How many there are: those of seven bytes, and those of eight, in which Sum or Count has two digits.
	for letters, want := range map[string]int{
		"017 ":  3*3*2*3 + 3*3*(6*3+2*6),
		"08 -":  1*1*1*2 + 1*1*(2*2+1*2),
		"12 x":  2*2*2*2 + 2*2*(4*2+2*4),
		"3+ \n": 1*1*1*1 + 1*1*(1*1+1*1),
	} {
		read := 0
		for _, data := range allOver([]byte(letters), 8) {
			s := string(data)
			m, is := readMoveByRule(s)
			if got, ok := impl.ReadMove(s); ok != is || got != m {
				t.Fatalf("%q: %+v, %v", s, got, ok)
			}
			if is && impl.ShowMove(m) != s {
				t.Fatalf("%q is shown as %q", s, impl.ShowMove(m))
			}
			if is {
				read++
			}
		}
		if read != want {
			t.Errorf("over %q %d are read, not %d", letters, read, want)
		}
	}
}

func TestReadMoveOfChangedTexts(t *testing.T) {
	source := rand.New(rand.NewSource(52))
	read, refused := 0, 0
	for range 60000 {
		data := []byte(anyMoveText(source, anyRightBank(source)))
		for range source.Intn(3) {
			if len(data) > 0 {
				data = changed(source, data)
			}
		}
		s := string(data)
		want, is := readMoveByRule(s)
		got, ok := impl.ReadMove(s)
		if ok != is || got != want {
			t.Fatalf("%q: %+v, %v", s, got, ok)
		}
		if ok && impl.ShowMove(got) != s {
			t.Fatalf("%q is shown as %q", s, impl.ShowMove(got))
		}
		if is {
			read++
		} else {
			refused++
		}
	}
	if read < 10000 || refused < 10000 {
		t.Fatal(read, refused)
	}
}

func TestMovedOfForms(t *testing.T) {
	some := bankWith([]int64{10, 20, 30, 40, 50, 60, 70, 80}, []int64{0, 1, 2, 3, 4, 5, 6, 7})
	for name, c := range map[string]struct {
		move   impl.Move
		money  []int64
		counts []int64
		code   int64
	}{
		"done":                       {impl.Move{From: 1, To: 2, Sum: 5, Count: 1}, []int64{10, 15, 35, 40, 50, 60, 70, 80}, []int64{0, 2, 2, 3, 4, 5, 6, 7}, 0},
		"done, the other way":        {impl.Move{From: 2, To: 1, Sum: 5, Count: 2}, []int64{10, 25, 25, 40, 50, 60, 70, 80}, []int64{0, 1, 3, 3, 4, 5, 6, 7}, 0},
		"done, from the first":       {impl.Move{From: 0, To: 7, Sum: 1, Count: 0}, []int64{9, 20, 30, 40, 50, 60, 70, 81}, []int64{1, 1, 2, 3, 4, 5, 6, 7}, 0},
		"done, from the last":        {impl.Move{From: 7, To: 0, Sum: 1, Count: 7}, []int64{11, 20, 30, 40, 50, 60, 70, 79}, []int64{0, 1, 2, 3, 4, 5, 6, 8}, 0},
		"done, all of it":            {impl.Move{From: 3, To: 6, Sum: 40, Count: 3}, []int64{10, 20, 30, 0, 50, 60, 110, 80}, []int64{0, 1, 2, 4, 4, 5, 6, 7}, 0},
		"done, all but one":          {impl.Move{From: 3, To: 6, Sum: 39, Count: 3}, []int64{10, 20, 30, 1, 50, 60, 109, 80}, []int64{0, 1, 2, 4, 4, 5, 6, 7}, 0},
		"done, to itself":            {impl.Move{From: 4, To: 4, Sum: 7, Count: 4}, []int64{10, 20, 30, 40, 50, 60, 70, 80}, []int64{0, 1, 2, 3, 5, 5, 6, 7}, 0},
		"done, all of it to itself":  {impl.Move{From: 4, To: 4, Sum: 50, Count: 4}, []int64{10, 20, 30, 40, 50, 60, 70, 80}, []int64{0, 1, 2, 3, 5, 5, 6, 7}, 0},
		"a Count too low":            {impl.Move{From: 3, To: 6, Sum: 1, Count: 2}, some.Money, some.Counts, 2},
		"a Count too high":           {impl.Move{From: 3, To: 6, Sum: 1, Count: 4}, some.Money, some.Counts, 2},
		"the Count of To":            {impl.Move{From: 3, To: 6, Sum: 1, Count: 6}, some.Money, some.Counts, 2},
		"the greatest Count":         {impl.Move{From: 3, To: 6, Sum: 1, Count: mostSeq - 1}, some.Money, some.Counts, 2},
		"a wrong Count to itself":    {impl.Move{From: 3, To: 3, Sum: 1, Count: 4}, some.Money, some.Counts, 2},
		"one too much":               {impl.Move{From: 3, To: 6, Sum: 41, Count: 3}, some.Money, some.Counts, 3},
		"what To would have":         {impl.Move{From: 0, To: 7, Sum: 80, Count: 0}, some.Money, some.Counts, 3},
		"much too much":              {impl.Move{From: 3, To: 6, Sum: mostMoney, Count: 3}, some.Money, some.Counts, 3},
		"too much to itself":         {impl.Move{From: 3, To: 3, Sum: 41, Count: 3}, some.Money, some.Counts, 3},
		"Count and Money":            {impl.Move{From: 3, To: 6, Sum: 41, Count: 4}, some.Money, some.Counts, 2},
		"Count below, and Money":     {impl.Move{From: 3, To: 6, Sum: mostMoney, Count: 0}, some.Money, some.Counts, 2},
		"Count and Money, to itself": {impl.Move{From: 3, To: 3, Sum: 41, Count: 0}, some.Money, some.Counts, 2},
		"no From":                    {impl.Move{From: 8, To: 6, Sum: 1, Count: 0}, nil, nil, 1},
		"From below 0":               {impl.Move{From: -1, To: 6, Sum: 1, Count: 0}, nil, nil, 1},
		"no To":                      {impl.Move{From: 3, To: 8, Sum: 1, Count: 3}, nil, nil, 1},
		"To below 0":                 {impl.Move{From: 3, To: -1, Sum: 1, Count: 3}, nil, nil, 1},
		"no Sum":                     {impl.Move{From: 3, To: 6, Sum: 0, Count: 3}, nil, nil, 1},
		"a Sum below 0":              {impl.Move{From: 3, To: 6, Sum: -1, Count: 3}, nil, nil, 1},
		"a Sum past MaxMoney":        {impl.Move{From: 3, To: 6, Sum: mostMoney + 1, Count: 3}, nil, nil, 1},
		"a Count below 0":            {impl.Move{From: 3, To: 6, Sum: 1, Count: -1}, nil, nil, 1},
		"a Count of MaxSeq":          {impl.Move{From: 3, To: 6, Sum: 1, Count: mostSeq}, nil, nil, 1},
		"no Sum, and another Count":  {impl.Move{From: 3, To: 6, Sum: 0, Count: 5}, nil, nil, 1},
		"no To, and too much":        {impl.Move{From: 3, To: 8, Sum: 41, Count: 3}, nil, nil, 1},
		"the zero Move":              {impl.Move{}, nil, nil, 1},
	} {
		wantMoved(t, name, some, c.move, bankWith(c.money, c.counts), c.code)
	}
}

// A Count of MaxSeq - 1 is the last that an account has.
func TestMovedUntilCountedOut(t *testing.T) {
	b := bankWith(eight(1000), eightWith(5, mostSeq-1))
	last := impl.Move{From: 5, To: 2, Sum: 100, Count: mostSeq - 1}
	out := bankWith([]int64{1000, 1000, 1100, 1000, 1000, 900, 1000, 1000}, eightWith(5, mostSeq))
	wantMoved(t, "the last one", b, last, out, 0)
	wantMoved(t, "the last one again", out, last, out, 2)
	refuseMoved(t, "one behind the last", out, impl.Move{From: 5, To: 2, Sum: 100, Count: mostSeq})
	wantMoved(t, "from the first Count on", out, impl.Move{From: 5, To: 2, Sum: 100}, out, 2)
	wantMoved(t, "to it", out, impl.Move{From: 2, To: 5, Sum: 1100}, bankWith([]int64{1000, 1000, 0, 1000, 1000, 2000, 1000, 1000}, []int64{0, 0, 1, 0, 0, mostSeq, 0, 0}), 0)
}

// All Money in one account goes wherever it is sent, and no account is ever past MaxMoney.
func TestMovedOfAllMoney(t *testing.T) {
	for from := range accountsOfBank {
		for to := range accountsOfBank {
			b := bankWith(eightWith(from, mostMoney), eight(0))
			m := impl.Move{From: int64(from), To: int64(to), Sum: mostMoney}
			wantMoved(t, "all", b, m, bankWith(eightWith(to, mostMoney), eightWith(from, 1)), 0)
			if from != to {
				b.Money[from], b.Money[to] = 1, mostMoney-1
				m.Sum = 1
				wantMoved(t, "the last one", b, m, bankWith(eightWith(to, mostMoney), eightWith(from, 1)), 0)
				m.Sum = 2
				wantMoved(t, "one too much", b, m, b, 3)
			}
		}
	}
}

func TestMovedOfWhatIsNotRight(t *testing.T) {
	moves := slices.Concat(rightMoves(), wrongMoves())
	for name, b := range wrongBanks() {
		for _, m := range moves {
			refuseMoved(t, name, b, m)
		}
	}
	for name, b := range rightBanks() {
		for _, m := range wrongMoves() {
			refuseMoved(t, name, b, m)
		}
	}
	// The account and the Count would be there, were nine of them right.
	refuseMoved(t, "a ninth account", bankWith(append(eight(1000), 1000), append(eight(0), 0)), impl.Move{From: 8, To: 0, Sum: 1})
	refuseMoved(t, "seven accounts", bankWith(eight(1000)[:7], eight(0)[:7]), impl.Move{From: 0, To: 1, Sum: 1})
	refuseMoved(t, "seven, with the eighth in the room", bankWith(eight(1000)[:7], eight(0)[:7]), impl.Move{From: 7, To: 0, Sum: 1})
	refuseMoved(t, "a Count past MaxSeq", bankWith(eight(1000), eight(mostSeq+1)), impl.Move{From: 0, To: 1, Sum: 1, Count: mostSeq + 1})
	refuseMoved(t, "too much together", bankWith(eight(mostMoney), eight(0)), impl.Move{From: 0, To: 1, Sum: 1})
}

// checkMoved asks promise 13 of a right bank and any Move, and what else the rule tells.
func checkMoved(t *testing.T, b impl.Bank, m impl.Move) (impl.Bank, int64) {
	t.Helper()
	before := bankClone(b)
	got, code := impl.Moved(b, m)
	want, wantCode := movedByRule(before, m)
	if code != wantCode || !sameBank(got, want) || !sameBank(b, before) {
		t.Fatalf("%v by %+v: %v and %d, not %v and %d", before, m, got, code, want, wantCode)
	}
	if code == impl.MvBad {
		return b, code
	}
	if !impl.BankOk(got) || impl.Total(got) != impl.Total(before) {
		t.Fatalf("%v by %+v: %v has %d", before, m, got, impl.Total(got))
	}
	if code == impl.MvDone {
		again, twice := impl.Moved(got, m)
		if twice != impl.MvCount || !sameBank(again, got) {
			t.Fatalf("%v by %+v twice: %v and %d", before, m, again, twice)
		}
	}
	return got, code
}

// Each account to each, with Sums and Counts around what there is.
func TestMovedFromEachToEach(t *testing.T) {
	codes := map[int64]int{}
	for _, b := range rightBanks() {
		for from := range int64(accountsOfBank) {
			for to := range int64(accountsOfBank) {
				for _, sum := range []int64{1, b.Money[from] - 1, b.Money[from], b.Money[from] + 1, mostMoney} {
					for _, count := range []int64{0, b.Counts[from] - 1, b.Counts[from], b.Counts[from] + 1, mostSeq - 1} {
						_, code := checkMoved(t, b, impl.Move{From: from, To: to, Sum: sum, Count: count})
						codes[code]++
					}
				}
			}
		}
	}
	for code := range int64(4) {
		if codes[code] < 1000 {
			t.Fatal(codes)
		}
	}
}

// Money moves, and Total stays: by long scripts from any bank on.
func TestMovedByAnyScript(t *testing.T) {
	source := rand.New(rand.NewSource(53))
	codes := map[int64]int{}
	for range 400 {
		b := anyRightBank(source)
		total := totalByRule(b)
		done := []impl.Move{}
		for range 100 {
			m := anyMove(source, b)
			next, code := checkMoved(t, b, m)
			codes[code]++
			if code == impl.MvDone {
				done = append(done, m)
			}
			b = next
			if impl.Total(b) != total {
				t.Fatal(b, total)
			}
		}
		// What was done once is never done again, however much comes between.
		for _, m := range done {
			if again, code := impl.Moved(b, m); code != impl.MvCount || !sameBank(again, b) {
				t.Fatalf("%v by %+v again: %v and %d", b, m, again, code)
			}
		}
	}
	for code := range int64(4) {
		if codes[code] < 500 {
			t.Fatal(codes)
		}
	}
}

// All short scripts of a few Moves: nothing comes, nothing goes.
func TestMovedByAllShortScripts(t *testing.T) {
	moves := []impl.Move{
		{From: 0, To: 1, Sum: 2, Count: 0},
		{From: 0, To: 1, Sum: 1, Count: 1},
		{From: 1, To: 0, Sum: 3, Count: 0},
		{From: 1, To: 1, Sum: 1, Count: 1},
		{From: 1, To: 7, Sum: 2, Count: 0},
		{From: 7, To: 8, Sum: 2, Count: 0},
	}
	banks := []impl.Bank{bankWith([]int64{2, 1, 0, 0, 0, 0, 0, 0}, eight(0))}
	for range 5 {
		next := []impl.Bank{}
		for _, b := range banks {
			for _, m := range moves {
				out, _ := checkMoved(t, b, m)
				if impl.Total(out) != 3 {
					t.Fatal(out)
				}
				next = append(next, out)
			}
		}
		banks = next
	}
}

func TestMovedAllOfForms(t *testing.T) {
	fresh := impl.NewBank()
	two := bankWith([]int64{700, 1300, 1000, 1000, 1000, 1000, 1000, 1000}, eightWith(0, 1))
	for name, c := range map[string]struct {
		list []string
		want impl.Bank
		code []int64
	}{
		"nil":                      {nil, fresh, nil},
		"none":                     {[]string{}, fresh, nil},
		"one":                      {[]string{"0 1 300 0"}, two, []int64{0}},
		"one twice":                {[]string{"0 1 300 0", "0 1 300 0"}, two, []int64{0, 2}},
		"one that is none":         {[]string{"what"}, fresh, []int64{1}},
		"a text of nothing":        {[]string{""}, fresh, []int64{1}},
		"none at first":            {[]string{"0 1 0 0", "0 1 300 0"}, two, []int64{1, 0}},
		"none at last":             {[]string{"0 1 300 0", "0 1 300 01"}, two, []int64{0, 1}},
		"none between":             {[]string{"0 1 100 0", "0 1 200 1 ", "0 1 200 1"}, bankWith(two.Money, eightWith(0, 2)), []int64{0, 1, 0}},
		"none around":              {[]string{"", "8 1 1 0", "0 1 300 0", "0 1 1", "0 1 1 1000000"}, two, []int64{1, 1, 0, 1, 1}},
		"each code":                {[]string{"0 1 300 0", "0 2 1 0", "0 2 701 1", "what", "0 1 1 1"}, bankWith([]int64{699, 1301, 1000, 1000, 1000, 1000, 1000, 1000}, eightWith(0, 2)), []int64{0, 2, 3, 1, 0}},
		"a Count that comes later": {[]string{"0 1 1 1", "0 1 300 0"}, two, []int64{2, 0}},
		"Money that comes first":   {[]string{"0 1 1000 0", "1 2 2000 0"}, bankWith([]int64{0, 0, 3000, 1000, 1000, 1000, 1000, 1000}, []int64{1, 1, 0, 0, 0, 0, 0, 0}), []int64{0, 0}},
		"Money that comes later":   {[]string{"1 2 2000 0", "0 1 1000 0"}, bankWith([]int64{0, 2000, 1000, 1000, 1000, 1000, 1000, 1000}, eightWith(0, 1)), []int64{3, 0}},
		"Count and Money":          {[]string{"0 1 1001 1"}, fresh, []int64{2}},
		"to itself":                {[]string{"3 3 1000 0", "3 3 1000 1"}, bankWith(fresh.Money, eightWith(3, 2)), []int64{0, 0}},
	} {
		wantMovedAll(t, name, fresh, c.list, c.want, c.code)
	}
	last := bankWith(eight(1000), eightWith(6, mostSeq-1))
	wantMovedAll(t, "counted out", last, []string{"6 6 1 999999", "6 6 1 1000000", "6 6 1 999999", "6 6 1 0"}, bankWith(eight(1000), eightWith(6, mostSeq)), []int64{0, 1, 2, 2})
}

// A text that is none leaves the bank as it is at that time, wherever it stands.
func TestMovedAllOfTextsThatAreNoMoves(t *testing.T) {
	right := []string{"0 1 300 0", "1 2 1300 0", "2 2 5 0", "0 7 700 1"}
	want, codes := movedAllByRule(impl.NewBank(), right)
	for name, none := range nearTexts() {
		for at := range len(right) + 1 {
			wantMovedAll(t, name, impl.NewBank(), slices.Insert(slices.Clone(right), at, none), want, slices.Insert(slices.Clone(codes), at, 1))
		}
		for what, b := range rightBanks() {
			wantMovedAll(t, name+", "+what, b, []string{none, none}, b, []int64{1, 1})
		}
	}
}

func TestMovedAllOfWrongBanks(t *testing.T) {
	for name, b := range wrongBanks() {
		for _, list := range [][]string{nil, {"0 1 1 0"}, {"what"}, {"0 1 1 0", "", "1 0 1 0"}} {
			if got, codes := impl.MovedAll(b, list); !isZeroBank(got) || len(codes) != 0 {
				t.Errorf("%s by %q: %v and %v", name, list, got, codes)
			}
		}
	}
}

// Many texts, as there is no limit to them: as Moved of each, and as the list's parts one behind the other.
func TestMovedAllByParts(t *testing.T) {
	source := rand.New(rand.NewSource(54))
	codes := map[int64]int{}
	for range 150 {
		b := anyRightBank(source)
		list, now := []string{}, b
		for range source.Intn(30) {
			text := anyMoveText(source, now)
			list = append(list, text)
			if m, is := readMoveByRule(text); is {
				now, _ = movedByRule(now, m)
			}
		}
		want, wantCodes := movedAllByRule(b, list)
		wantMovedAll(t, "any", b, list, want, wantCodes)
		if all, _ := impl.MovedAll(b, list); !impl.BankOk(all) || impl.Total(all) != impl.Total(b) {
			t.Fatalf("%v by %q: %v", b, list, all)
		}
		for at := range len(list) + 1 {
			first, ahead := impl.MovedAll(b, list[:at])
			last, behind := impl.MovedAll(first, list[at:])
			if !sameBank(last, want) || !slices.Equal(slices.Concat(ahead, behind), wantCodes) {
				t.Fatalf("%v by %q and %q: %v, %v and %v", b, list[:at], list[at:], last, ahead, behind)
			}
		}
		for _, code := range wantCodes {
			codes[code]++
		}
	}
	for code := range int64(4) {
		if codes[code] < 50 {
			t.Fatal(codes)
		}
	}
}

func TestMovedAllOfManyTexts(t *testing.T) {
	list, codes := []string{}, []int64{}
	for count := range int64(5000) {
		list = append(list, fmt.Sprint("4 5 1 ", count), "4 5 1 0")
		switch {
		case count < 1000:
			codes = append(codes, impl.MvDone, impl.MvCount)
		case count == 1000:
			codes = append(codes, impl.MvMoney, impl.MvCount)
		default:
			// What was not done did not count, so that no Count behind it is right.
			codes = append(codes, impl.MvCount, impl.MvCount)
		}
	}
	wantMovedAll(t, "ten thousand", impl.NewBank(), list, bankWith([]int64{1000, 1000, 1000, 1000, 0, 2000, 1000, 1000}, eightWith(4, 1000)), codes)
}

func TestTotal(t *testing.T) {
	for name, b := range rightBanks() {
		if got := impl.Total(b); got != totalByRule(b) || got < 0 {
			t.Errorf("%s: %d", name, got)
		}
	}
	for name, b := range wrongBanks() {
		if got := impl.Total(b); got != -1 {
			t.Errorf("%s: %d", name, got)
		}
	}
	for want, b := range map[int64]impl.Bank{
		0:         bankWith(eight(0), eight(7)),
		8000:      impl.NewBank(),
		36:        bankWith([]int64{1, 2, 3, 4, 5, 6, 7, 8}, eight(0)),
		mostMoney: bankWith(eightWith(7, mostMoney), eight(mostSeq)),
	} {
		if got := impl.Total(b); got != want {
			t.Errorf("%v: %d, not %d", b, got, want)
		}
	}
}

// bankArguments are those of all functions of the chapter.
type bankArguments struct {
	Bank  impl.Bank
	Move  impl.Move
	Texts []string
	Text  string
}

func (x bankArguments) roomy() bankArguments {
	x.Bank.Money = roomy(x.Bank.Money, -1, mostMoney, 0, 7)
	x.Bank.Counts = roomy(x.Bank.Counts, mostSeq+1, 0, -1, 7)
	x.Texts = roomy(x.Texts, "0 1 1 0", "", "what")
	return x
}

func (x bankArguments) tight() bankArguments {
	x.Bank.Money = slices.Clip(slices.Clone(x.Bank.Money))
	x.Bank.Counts = slices.Clip(slices.Clone(x.Bank.Counts))
	x.Texts = slices.Clip(slices.Clone(x.Texts))
	return x
}

func bankAnswers() map[string]func(bankArguments) any {
	type moved struct {
		Bank  impl.Bank
		Code  int64
		Codes []int64
	}
	type read struct {
		Move impl.Move
		Is   bool
	}
	return map[string]func(bankArguments) any{
		"BankOk":   func(x bankArguments) any { return impl.BankOk(x.Bank) },
		"NewBank":  func(x bankArguments) any { return impl.NewBank() },
		"MoveOk":   func(x bankArguments) any { return impl.MoveOk(x.Move) },
		"ShowMove": func(x bankArguments) any { return impl.ShowMove(x.Move) },
		"ReadMove": func(x bankArguments) any {
			m, is := impl.ReadMove(x.Text)
			return read{m, is}
		},
		"Moved": func(x bankArguments) any {
			b, code := impl.Moved(x.Bank, x.Move)
			return moved{Bank: b, Code: code}
		},
		"MovedAll": func(x bankArguments) any {
			b, codes := impl.MovedAll(x.Bank, x.Texts)
			return moved{Bank: b, Codes: codes}
		},
		"Total": func(x bankArguments) any { return impl.Total(x.Bank) },
	}
}

// bankCases goes through the functions and arguments of all kinds, with Moves of each code.
func bankCases(with func(name string, x bankArguments, answer func(bankArguments) any)) {
	for name, b := range someBanks() {
		count := int64(0)
		if len(b.Counts) > 0 {
			count = b.Counts[0]
		}
		for i, x := range []bankArguments{
			{},
			{Move: impl.Move{From: 0, To: 1, Sum: 1, Count: count}, Texts: []string{fmt.Sprint("0 1 1 ", count)}, Text: "1 2 3 4"},
			{Move: impl.Move{From: 0, To: 0, Sum: 1, Count: count}, Texts: []string{fmt.Sprint("0 0 1 ", count), "0 1 1 0", "what"}, Text: "1 2 3 4 5"},
			{Move: impl.Move{From: 0, To: 7, Sum: mostMoney, Count: count}, Texts: []string{fmt.Sprint("0 7 1000000000 ", count)}, Text: ""},
			{Move: impl.Move{From: 0, To: 7, Sum: 1, Count: count + 1}, Texts: []string{"what", "", " "}, Text: "7 7 1000000000 999999"},
			{Move: impl.Move{From: 8, To: -1, Sum: 0, Count: -1}, Texts: []string{"0 1 1 0", "1 0 1 0", "0 1 1 1"}, Text: "01 2 3 4"},
		} {
			x.Bank = b
			for what, answer := range bankAnswers() {
				with(fmt.Sprint(name, ", ", i, ": ", what), x, answer)
			}
		}
	}
}

func TestBanksLeaveTheirArguments(t *testing.T) {
	bankCases(func(name string, x bankArguments, answer func(bankArguments) any) {
		wantLeft(t, name, x, answer)
	})
}

func TestBanksGiveNewMemory(t *testing.T) {
	bankCases(func(name string, x bankArguments, answer func(bankArguments) any) {
		wantNewMemory(t, name, x, answer)
	})
}

// Lists of an argument that share memory do not make an answer whose lists do.
func TestBanksOfListsThatLieTogether(t *testing.T) {
	moves := []impl.Move{{From: 2, To: 3, Sum: 5, Count: 5}, {From: 2, To: 2, Sum: 1, Count: 5}, {From: 2, To: 3, Sum: 6, Count: 5}, {From: 2, To: 3, Sum: 5, Count: 4}, {}}
	texts := []string{"2 3 5 5", "2 3 1 6", "what", "3 2 10 5"}
	both, row := eight(5), append(eight(5), eight(5)...)
	for name, b := range map[string]impl.Bank{"one list twice": bankWith(both, both), "one behind the other": bankWith(row[:8], row[8:]), "one ahead of the other": bankWith(row[8:], row[:8])} {
		apart := bankWith(eight(5), eight(5))
		for _, m := range moves {
			want, code := movedByRule(apart, m)
			wantMoved(t, name, b, m, want, code)
			if got, _ := impl.Moved(b, m); sharesMemory(got, b) {
				t.Errorf("%s: %+v shares memory", name, m)
			}
		}
		want, codes := movedAllByRule(apart, texts)
		wantMovedAll(t, name, b, texts, want, codes)
		if got, _ := impl.MovedAll(b, texts); sharesMemory(got, b) {
			t.Errorf("%s: MovedAll shares memory", name)
		}
		if !sameBank(b, apart) {
			t.Errorf("%s: %v", name, b)
		}
	}
}

// What is written into an answer is in none of the arguments, nor in an answer that comes later.
func TestBanksApartFromTheirAnswers(t *testing.T) {
	lists := [][]string{nil, {"what"}, {"0 1 1 0"}, {"0 1 1 0", "1 0 1 0", "1 0 1 0"}}
	for name, b := range rightBanks() {
		before := bankClone(b)
		for _, m := range append(rightMoves(), impl.Move{From: 0, To: 1, Sum: 1, Count: b.Counts[0]}, impl.Move{}) {
			got, _ := impl.Moved(b, m)
			spoil(got.Money, -7)
			spoil(got.Counts, -7)
			want, code := movedByRule(before, m)
			wantMoved(t, name, b, m, want, code)
		}
		for _, list := range lists {
			got, codes := impl.MovedAll(b, list)
			spoil(got.Money, -7)
			spoil(got.Counts, -7)
			spoil(codes, -7)
			want, wantCodes := movedAllByRule(before, list)
			wantMovedAll(t, name, b, list, want, wantCodes)
		}
		if !sameBank(b, before) {
			t.Errorf("%s: an answer is the argument's memory", name)
		}
	}
}
