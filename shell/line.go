package shell

import "strings"

// mostDigits is how many a number has at the most.
const mostDigits = 9

// command is what a line says: a word, and the numbers behind it, as many as that word has.
type command struct {
	word    string
	numbers []int
}

// read answers what a line says; false: it is none.
func read(line string) (command, bool) {
	words := strings.Split(line, " ") // of two blanks, or one at an end, there comes an empty word
	n, ok := wants(words[0])
	if !ok || len(words)-1 != n {
		return command{}, false
	}
	c := command{word: words[0]}
	for _, w := range words[1:] {
		x, ok := number(w)
		if !ok {
			return command{}, false
		}
		c.numbers = append(c.numbers, x)
	}
	return c, true
}

// wants answers how many numbers stand behind a line's first word; false: there is no such line.
func wants(word string) (int, bool) {
	switch word {
	case "tick", "jobs", "rows", "nodes", "air":
		return 0, true
	case "cancel", "query", "calm", "land", "echo", "lose", "restart", "arm", "deaf", "hear":
		return 1, true
	case "crash":
		return 2, true
	case "submit":
		return 3, true
	}
	return 0, false
}

// number answers the number that a word spells; false: it spells none.
func number(word string) (int, bool) {
	if word == "" || len(word) > mostDigits || word[0] == '0' && word != "0" {
		return 0, false
	}
	n := 0
	for i := range len(word) {
		digit := word[i]
		if digit < '0' || digit > '9' {
			return 0, false
		}
		n = 10*n + int(digit-'0')
	}
	return n, true
}
