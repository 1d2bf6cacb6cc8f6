package tests

import (
	"encoding/hex"
	"regexp"
	"slices"
	"strconv"
	"strings"

	"loop.example/g00208/impl"
)

var (
	numberForm = regexp.MustCompile(`^(0|[1-9][0-9]{0,17})(?:[^A-Za-z0-9_]|$)`)
	quotedForm = regexp.MustCompile(`^(?s)('(?:[^']|'')*')(?:[^']|$)`)
	bytesForm  = regexp.MustCompile(`^(?s)(x'(?:[0-9a-f][0-9a-f]){0,60}')(?:[^']|$)`)
	wordForm   = regexp.MustCompile(`^([A-Za-z_][A-Za-z0-9_]{0,39})(?:[^A-Za-z0-9_]|$)`)
	signForm   = regexp.MustCompile(`^(<>|<=|>=|[=<>+*/%(),.-])`)
)

// tokenByWords is the token that a text begins with, and its length: 0 if that is none.
func tokenByWords(t string) (impl.Token, int) {
	if found := numberForm.FindStringSubmatch(t); found != nil {
		n, _ := strconv.Atoi(found[1])
		return impl.Token{Kind: impl.TkLit, Val: num(n)}, len(found[1])
	}
	if found := quotedForm.FindStringSubmatch(t); found != nil {
		inner := strings.ReplaceAll(found[1][1:len(found[1])-1], "''", "'")
		if len(inner) > impl.MaxCell {
			return impl.Token{}, 0
		}
		return impl.Token{Kind: impl.TkLit, Val: text(inner)}, len(found[1])
	}
	if strings.HasPrefix(t, "x'") {
		found := bytesForm.FindStringSubmatch(t)
		if found == nil {
			return impl.Token{}, 0
		}
		inner, _ := hex.DecodeString(found[1][2 : len(found[1])-1])
		return impl.Token{Kind: impl.TkLit, Val: raw(string(inner))}, len(found[1])
	}
	if found := wordForm.FindStringSubmatch(t); found != nil {
		return impl.Token{Kind: impl.TkWord, Text: found[1]}, len(found[1])
	}
	sign := signForm.FindString(t)
	return impl.Token{Kind: impl.TkSign, Text: sign}, len(sign)
}

func tokensByWords(t string) ([]impl.Token, int, int) {
	if len(t) > impl.MaxText {
		return nil, impl.ErrLong, 0
	}
	if len(t) > impl.MaxSource {
		return nil, impl.ErrRange, 0
	}
	var list []impl.Token
	for at := 0; at < len(t); {
		if strings.IndexByte(" \n", t[at]) >= 0 {
			at++
			continue
		}
		token, size := tokenByWords(t[at:])
		if size == 0 {
			return nil, impl.ErrSyntax, at
		}
		token.At = at
		list = append(list, token)
		at += size
	}
	if len(list) > impl.MaxTokens {
		return nil, impl.ErrMany, list[impl.MaxTokens].At
	}
	return list, impl.OK, 0
}

// sqlGrammar is what the document says of statements; words of capital letters are rules, but for NAME, NUMBER and LITERAL.
const sqlGrammar = `
STATEMENT: select ITEMS from TABLE JOIN WHERE GROUP ORDER LIMIT | insert into NAME values ( EXPRS ) | update NAME set SETS WHERE | delete from NAME WHERE
ITEMS: ITEM | ITEMS , ITEM
ITEM: E1 | E1 as NAME
TABLE: NAME | NAME as NAME
JOIN: | join TABLE on E1
WHERE: | where E1
GROUP: | group by COLUMNS
COLUMNS: COLUMN | COLUMNS , COLUMN
ORDER: | order by ORDERS
ORDERS: ONE | ORDERS , ONE
ONE: E1 | E1 desc
LIMIT: | limit NUMBER
EXPRS: E1 | EXPRS , E1
SETS: SET | SETS , SET
SET: NAME = E1
E1: E2 | E1 or E2
E2: E3 | E2 and E3
E3: E4 | not E3
E4: E5 | E5 = E5 | E5 <> E5 | E5 < E5 | E5 <= E5 | E5 > E5 | E5 >= E5 | E5 is null | E5 is not null
E5: E6 | E5 + E6 | E5 - E6
E6: E7 | E6 * E7 | E6 / E7 | E6 % E7
E7: - E7 | LITERAL | null | true | false | ( E1 ) | count ( * ) | count ( E1 ) | sum ( E1 ) | min ( E1 ) | max ( E1 ) | COLUMN
COLUMN: NAME | NAME . NAME`

// sqlRules are the grammar's rules by name, each a list of what may stand for it.
var sqlRules = func() map[string][][]string {
	rules := map[string][][]string{}
	for _, line := range strings.Split(strings.TrimSpace(sqlGrammar), "\n") {
		name, ways, _ := strings.Cut(line, ":")
		for _, way := range strings.Split(ways, "|") {
			rules[name] = append(rules[name], strings.Fields(way))
		}
	}
	return rules
}()

// reading is a rule of which some symbols are read since some token.
type reading struct {
	rule            string
	way, done, from int
}

func (r reading) symbols() []string { return sqlRules[r.rule][r.way] }

func (r reading) on() reading {
	r.done++
	return r
}

func (r reading) next() string {
	if r.done == len(r.symbols()) {
		return ""
	}
	return r.symbols()[r.done]
}

// isOne says that a token may stand for a symbol that is no rule.
func isOne(token impl.Token, symbol string) bool {
	switch symbol {
	case "NAME":
		return token.Kind == impl.TkWord && !slices.Contains(statementWords, token.Text)
	case "NUMBER":
		return token.Kind == impl.TkLit && token.Val.Kind == impl.VaInt
	case "LITERAL":
		return token.Kind == impl.TkLit
	}
	return token.Text == symbol
}

// goesOn tells how many tokens a statement may begin with (by all readings at once, so that no choice is made), and whether they are one.
func goesOn(tokens []impl.Token) (int, bool) {
	var sets [][]reading
	var now []reading
	for way := range sqlRules["STATEMENT"] {
		now = append(now, reading{rule: "STATEMENT", way: way})
	}
	for at := 0; ; at++ {
		now = closed(append(sets, now), at)
		sets = append(sets, now)
		if at == len(tokens) {
			return at, slices.ContainsFunc(now, func(r reading) bool { return r.rule == "STATEMENT" && r.next() == "" && r.from == 0 })
		}
		var then []reading
		for _, r := range now {
			if symbol := r.next(); symbol != "" && sqlRules[symbol] == nil && isOne(tokens[at], symbol) {
				then = append(then, r.on())
			}
		}
		if len(then) == 0 {
			return at, false
		}
		now = then
	}
}

// closed adds to the last set what its readings wait for, and what goes on with what they have read.
func closed(sets [][]reading, at int) []reading {
	list := sets[at]
	seen := map[reading]int{}
	add := func(r reading) {
		if seen[r]++; seen[r] == 1 {
			list = append(list, r)
		}
	}
	first := list
	list = nil
	for _, r := range first {
		add(r)
	}
	for i := 0; i < len(list); i++ {
		r := list[i]
		symbol := r.next()
		if symbol == "" {
			waiting := list
			if r.from < at {
				waiting = sets[r.from]
			}
			for _, w := range waiting {
				if w.next() == r.rule {
					add(w.on())
				}
			}
			continue
		}
		for way, symbols := range sqlRules[symbol] {
			add(reading{rule: symbol, way: way, from: at})
			if len(symbols) == 0 {
				add(r.on())
			}
		}
	}
	return list
}

// splitter makes trees of tokens that are a statement: it splits them where they hold together least.
type splitter struct{ many []int }

// lastOf is where the last of some signs stands outside of parentheses, behind an operand: -1 if none does.
func lastOf(tokens []impl.Token, signs ...string) int {
	last, within := -1, 0
	for i, token := range tokens {
		switch {
		case token.Text == "(":
			within++
		case token.Text == ")":
			within--
		case within == 0 && i > 0 && slices.Contains(signs, token.Text) && (token.Text != "-" || isOperandEnd(tokens[i-1])):
			last = i
		}
	}
	return last
}

func isOperandEnd(token impl.Token) bool {
	return token.Kind == impl.TkLit || token.Kind == impl.TkWord && !slices.Contains([]string{"or", "and", "not", "is"}, token.Text) || token.Text == ")"
}

func (s *splitter) opens(token impl.Token, within int) {
	if within >= 12 {
		s.many = append(s.many, token.At)
	}
}

func (s *splitter) expr(tokens []impl.Token, within int) impl.Tree {
	for _, signs := range [][]string{{"or"}, {"and"}} {
		if at := lastOf(tokens, signs...); at >= 0 {
			return pair(s.expr(tokens[:at], within), tokens[at].Text, s.expr(tokens[at+1:], within))
		}
	}
	if tokens[0].Text == "not" {
		s.opens(tokens[0], within)
		return unary("not", s.expr(tokens[1:], within+1))
	}
	if at := lastOf(tokens, "is"); at >= 0 {
		name := "is"
		for _, token := range tokens[at+1:] {
			name += token.Text
		}
		return unary(name, s.expr(tokens[:at], within))
	}
	for _, signs := range [][]string{{"=", "<>", "<", "<=", ">", ">="}, {"+", "-"}, {"*", "/", "%"}} {
		if at := lastOf(tokens, signs...); at >= 0 {
			return pair(s.expr(tokens[:at], within), tokens[at].Text, s.expr(tokens[at+1:], within))
		}
	}
	return s.one(tokens, within)
}

func (s *splitter) one(tokens []impl.Token, within int) impl.Tree {
	first, last := tokens[0], len(tokens)-1
	switch {
	case first.Kind == impl.TkLit:
		return lit(first.Val)
	case first.Text == "null":
		return lit(impl.Value{})
	case first.Text == "true":
		return lit(flag(1))
	case first.Text == "false":
		return lit(flag(0))
	case first.Text == "-":
		s.opens(first, within)
		return unary("-", s.expr(tokens[1:], within+1))
	case first.Text == "(":
		s.opens(first, within)
		return s.expr(tokens[1:last], within+1)
	case len(tokens) > 1 && tokens[1].Text == "(":
		s.opens(tokens[1], within)
		if tokens[2].Text == "*" {
			return agg(first.Text)
		}
		return agg(first.Text, s.expr(tokens[2:last], within+1))
	case len(tokens) == 3:
		return field(first.Text + "." + tokens[2].Text)
	}
	return field(first.Text)
}

// byCommas are the pieces of tokens between commas; none stands within parentheses.
func byCommas(tokens []impl.Token) [][]impl.Token {
	var list [][]impl.Token
	for {
		at := lastOf(tokens, ",")
		list = append([][]impl.Token{tokens[at+1:]}, list...)
		if at < 0 {
			return list
		}
		tokens = tokens[:at]
	}
}

// marked cuts a word and what stands behind it off.
func marked(tokens []impl.Token, word string) ([]impl.Token, []impl.Token) {
	at := slices.IndexFunc(tokens, func(token impl.Token) bool { return token.Text == word })
	if at < 0 {
		return tokens, nil
	}
	return tokens[:at], tokens[at+1:]
}

func (s *splitter) where(tokens []impl.Token) []impl.Tree {
	if tokens == nil {
		return nil
	}
	return []impl.Tree{where(s.expr(tokens, 0))}
}

func (s *splitter) statement(tokens []impl.Token) impl.Tree {
	switch tokens[0].Text {
	case "insert":
		n := insertInto(tokens[2].Text)
		for _, piece := range byCommas(tokens[5 : len(tokens)-1]) {
			n.Kids = append(n.Kids, s.expr(piece, 0))
		}
		return n
	case "update":
		n := updateOf(tokens[1].Text)
		sets, rest := marked(tokens[3:], "where")
		for _, piece := range byCommas(sets) {
			n.Kids = append(n.Kids, setTo(piece[0].Text, s.expr(piece[2:], 0)))
		}
		n.Kids = append(n.Kids, s.where(rest)...)
		return n
	case "delete":
		_, rest := marked(tokens, "where")
		return deleteFrom(tokens[2].Text, s.where(rest)...)
	}
	return s.query(tokens[1:])
}

func tableOfWords(tokens []impl.Token) impl.Tree {
	if len(tokens) == 3 {
		return fromAs(tokens[0].Text, tokens[2].Text)
	}
	return from(tokens[0].Text)
}

func (s *splitter) query(tokens []impl.Token) impl.Tree {
	tokens, last := marked(tokens, "limit")
	tokens, orders := marked(tokens, "order")
	tokens, groups := marked(tokens, "group")
	tokens, wheres := marked(tokens, "where")
	tokens, ons := marked(tokens, "on")
	tokens, second := marked(tokens, "join")
	items, first := marked(tokens, "from")
	var parts []impl.Tree
	for _, piece := range byCommas(items) {
		piece, name := marked(piece, "as")
		part := item(s.expr(piece, 0))
		if name != nil {
			part.Name = name[0].Text
		}
		parts = append(parts, part)
	}
	parts = append(parts, tableOfWords(first))
	if second != nil {
		parts = append(parts, tableOfWords(second), joinOn(s.expr(ons, 0)))
	}
	parts = append(parts, s.where(wheres)...)
	if groups != nil {
		part := groupBy()
		for _, piece := range byCommas(groups[1:]) {
			part.Kids = append(part.Kids, s.one(piece, 0))
		}
		parts = append(parts, part)
	}
	if orders != nil {
		for _, piece := range byCommas(orders[1:]) {
			piece, down := marked(piece, "desc")
			part := rising(s.expr(piece, 0))
			if down != nil {
				part.N = 1
			}
			parts = append(parts, part)
		}
	}
	if last != nil {
		parts = append(parts, limit(last[0].Val.N))
	}
	return query(parts...)
}

// parseByWords is what a text is to be read as: its tree, code and place.
func parseByWords(t string) (impl.Tree, int, int) {
	tokens, code, place := tokensByWords(t)
	if code != impl.OK {
		return impl.Tree{}, code, place
	}
	fit, done := goesOn(tokens)
	switch {
	case fit < len(tokens):
		return impl.Tree{}, impl.ErrSyntax, tokens[fit].At
	case !done:
		return impl.Tree{}, impl.ErrSyntax, len(t)
	}
	var s splitter
	n := s.statement(tokens)
	switch {
	case len(s.many) > 0:
		return impl.Tree{}, impl.ErrMany, slices.Min(s.many)
	case !statementByWords(n):
		return impl.Tree{}, impl.ErrForm, 0
	}
	return n, impl.OK, 0
}

// kindLetters has a letter for each kind; unary and binary nodes have the same one.
const kindLetters = "?siudITOWGRLSlcbba"

// kidForms say which kids a kind has; E stands for any expression.
var kidForms = map[byte]*regexp.Regexp{}

func init() {
	for letter, form := range map[byte]string{
		's': `I+(T|TTO)W?G?R*L?`, 'i': `E+`, 'u': `S+W?`, 'd': `W?`, 'I': `E`, 'T': ``, 'O': `E`, 'W': `E`, 'G': `c+`, 'R': `E`, 'L': ``, 'S': `E`, 'l': ``, 'c': ``, 'b': `EE?`, 'a': `E?`,
	} {
		kidForms[letter] = regexp.MustCompile("^" + strings.ReplaceAll("(?:"+form+")", "E", "[lcba]") + "$")
	}
}

func letterOf(n impl.Tree) byte {
	if n.Kind < 1 || n.Kind >= len(kindLetters) {
		return '?'
	}
	return kindLetters[n.Kind]
}

// statementByWords tells by the document's words whether a tree is a right statement.
func statementByWords(n impl.Tree) bool {
	size, deep := 0, 0
	measure(n, 1, &size, &deep)
	if size > 120 || deep > 20 || !strings.Contains("siud", string(letterOf(n))) {
		return false
	}
	return nodesByWords(n, "")
}

func measure(n impl.Tree, at int, size, deep *int) {
	*size++
	*deep = max(*deep, at)
	for _, kid := range n.Kids {
		measure(kid, at+1, size, deep)
	}
}

// nodesByWords knows which kinds stand above a node, to find aggregates where they may not be.
func nodesByWords(n impl.Tree, above string) bool {
	letter := letterOf(n)
	letters := ""
	for _, kid := range n.Kids {
		letters += string(letterOf(kid))
	}
	if letter == '?' || !kidForms[letter].MatchString(letters) || !partsByWords(n) {
		return false
	}
	if letter == 'a' && (!strings.ContainsAny(above, "IR") || strings.Contains(above, "a")) {
		return false
	}
	for _, kid := range n.Kids {
		if !nodesByWords(kid, above+string(letter)) {
			return false
		}
	}
	return true
}

// partsByWords asks of a node without its kids (but how many operands it has): each part that it has must be told of its kind.
func partsByWords(n impl.Tree) bool {
	const many = "999999999999999999"
	maybe := func(t string) bool { return t == "" || rightName(t) }
	inBounds := func(n int) bool { return n >= 0 && len(strconv.Itoa(n)) <= len(many) }
	noName, noOf, noN, noVal := n.Name == "", n.Of == "", n.N == 0, n.Val == impl.Value{}
	switch kindWords[n.Kind] {
	case "select", "on", "where", "group":
		return noName && noOf && noN && noVal
	case "insert", "update", "delete", "set":
		return rightName(n.Name) && noOf && noN && noVal
	case "item":
		return maybe(n.Name) && noOf && noN && noVal
	case "table", "col":
		return rightName(n.Name) && maybe(n.Of) && noN && noVal
	case "order":
		return noName && noOf && (noN || n.N == 1) && noVal
	case "limit":
		return noName && noOf && inBounds(n.N) && noVal
	case "lit":
		return noName && noOf && noN && impl.ValueOK(n.Val) && (n.Val.Kind != impl.VaInt || inBounds(n.Val.N))
	case "unary":
		return slices.Contains(unaryNames, n.Name) && noOf && noN && noVal && len(n.Kids) == 1
	case "binary":
		return slices.Contains(signNames, n.Name) && noOf && noN && noVal && len(n.Kids) == 2
	}
	whole := n.Name == "count" && len(n.Kids) == 0
	return (whole || slices.Contains([]string{"count", "sum", "min", "max"}, n.Name) && len(n.Kids) == 1) && noOf && noN && noVal
}

// levelsOf are an operator's own level, and those that its operands' places ask for.
var levelsOf = map[string][3]int{
	"or": {1, 1, 2}, "and": {2, 2, 3}, "=": {4, 5, 5}, "<>": {4, 5, 5}, "<": {4, 5, 5}, "<=": {4, 5, 5}, ">": {4, 5, 5}, ">=": {4, 5, 5},
	"+": {5, 5, 6}, "-": {5, 5, 6}, "*": {6, 6, 7}, "/": {6, 6, 7}, "%": {6, 6, 7},
}

// exprByWords is an expression's text and its level.
func exprByWords(e impl.Tree) (string, int) {
	at := func(kid, level int) string {
		t, own := exprByWords(e.Kids[kid])
		if own < level {
			return "(" + t + ")"
		}
		return t
	}
	switch kindWords[e.Kind] {
	case "binary":
		levels := levelsOf[e.Name]
		return at(0, levels[1]) + " " + e.Name + " " + at(1, levels[2]), levels[0]
	case "unary":
		switch e.Name {
		case "-":
			return "-" + at(0, 7), 7
		case "not":
			return "not " + at(0, 3), 3
		case "isnull":
			return at(0, 5) + " is null", 4
		}
		return at(0, 5) + " is not null", 4
	case "agg":
		if len(e.Kids) == 0 {
			return "count(*)", 7
		}
		return e.Name + "(" + at(0, 0) + ")", 7
	case "col":
		return strings.TrimPrefix(e.Of+"."+e.Name, "."), 7
	}
	t, _ := impl.ValueText(e.Val)
	return t, 7
}

// printByWords is a right statement's text.
func printByWords(n impl.Tree) string {
	pieces := map[string][]string{}
	for _, kid := range n.Kids {
		t := ""
		if len(kid.Kids) > 0 {
			t, _ = exprByWords(kid.Kids[0])
		}
		word := kindWords[kid.Kind]
		switch word {
		case "item":
			t += strings.TrimSuffix(" as "+kid.Name, " as ")
		case "table":
			t = kid.Name + strings.TrimSuffix(" as "+kid.Of, " as ")
		case "group":
			for _, column := range kid.Kids[1:] {
				other, _ := exprByWords(column)
				t += ", " + other
			}
		case "order":
			t += []string{"", " desc"}[kid.N]
		case "limit":
			t = strconv.Itoa(kid.N)
		case "set":
			t = kid.Name + " = " + t
		case "on", "where":
		default:
			word = "value"
			t, _ = exprByWords(kid)
		}
		pieces[word] = append(pieces[word], t)
	}
	part := func(ahead, word, between string) string {
		if pieces[word] == nil {
			return ""
		}
		return ahead + strings.Join(pieces[word], between)
	}
	rest := part(" on ", "on", "") + part(" where ", "where", "") + part(" group by ", "group", "") + part(" order by ", "order", ", ") + part(" limit ", "limit", "")
	switch kindWords[n.Kind] {
	case "insert":
		return "insert into " + n.Name + " values (" + part("", "value", ", ") + ")"
	case "update":
		return "update " + n.Name + part(" set ", "set", ", ") + rest
	case "delete":
		return "delete from " + n.Name + rest
	}
	return part("select ", "item", ", ") + part(" from ", "table", " join ") + rest
}
