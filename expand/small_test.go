package expand_test

import (
	"strings"
	"testing"

	"shuttle/api"
)

// small are all data of exactly so many nodes, with these atoms.
func small(nodes int, atoms []api.Datum) []api.Datum {
	var l []api.Datum
	if nodes == 1 {
		l = append(append(l, atoms...), vec())
	}
	for _, row := range smallRows(nodes-1, atoms) {
		l = append(l, list(row...))
		if last := len(row) - 1; last > 0 && row[last].K != api.DList && row[last].K != api.DDot {
			l = append(l, dot(row[last], row[:last]...))
		}
	}
	return l
}

// smallRows are all rows of data that have so many nodes together.
func smallRows(nodes int, atoms []api.Datum) [][]api.Datum {
	if nodes == 0 {
		return [][]api.Datum{nil}
	}
	var l [][]api.Datum
	for first := 1; first <= nodes; first++ {
		rest := smallRows(nodes-first, atoms)
		for _, x := range small(first, atoms) {
			for _, r := range rest {
				l = append(l, append([]api.Datum{x}, r...))
			}
		}
	}
	return l
}

// P8.1: all small forms that begin with a keyword, at the top level and within a procedure.
func TestSmallForms(t *testing.T) {
	t.Parallel()
	right := map[string]int{}
	for _, word := range words {
		atoms := ds("x 1")
		if word == "cond" {
			atoms = ds("x else")
		}
		for nodes := range 6 {
			for _, row := range smallRows(nodes, atoms) {
				form := list(append([]api.Datum{sym(word)}, row...)...)
				if _, e := newTwin(t).form(form); e == api.OK {
					right[word]++
				}
				newTwin(t).form(list(sym("lambda"), list(sym("x")), form))
			}
		}
	}
	for _, word := range words {
		if right[word] < 2 && !strings.HasSuffix(word, "-syntax") {
			t.Errorf("only %d forms of %s are right", right[word], word)
		}
	}
}

// P8.1: all small forms, whatever they begin with.
func TestSmallData(t *testing.T) {
	t.Parallel()
	for nodes := 1; nodes <= 5; nodes++ {
		for _, x := range small(nodes, append(ds("m or"), sym("x", 1))) {
			w := newTwin(t, "(define-syntax m (syntax-rules (or) ((_ or) 1) ((_ a) a) ((m . a) (m a))))")
			w.form(x)
		}
	}
}

// P8.1: all small macro definitions.
func TestSmallDefinitions(t *testing.T) {
	t.Parallel()
	right := 0
	for nodes := range 6 {
		for _, row := range smallRows(nodes, ds("_ a ...")) {
			s := list(append([]api.Datum{sym("syntax-rules")}, row...)...)
			w := newTwin(t)
			w.form(list(sym("let-syntax"), list(list(sym("m"), s)), d("(m 1)")))
			if _, e := w.form(list(sym("define-syntax"), sym("m"), s)); e == api.OK {
				w.form(d("(m)"))
				w.form(d("(m b)"))
				right++
			}
		}
	}
	for nodes := 1; nodes < 6; nodes++ {
		for _, s := range small(nodes, append(ds("syntax-rules a"), sym("syntax-rules", 1))) {
			w := newTwin(t)
			w.form(list(sym("define-syntax"), sym("m"), s))
			w.form(list(sym("let-syntax"), list(list(sym("m"), s)), num(1)))
		}
	}
	if right < 100 {
		t.Error("only so many are right:", right)
	}
}

// P8.1: macros by which names are captured if anything may be, used in all sorts of places.
func TestHygiene(t *testing.T) {
	t.Parallel()
	around := []string{"%", "(lambda (x) %)", "(lambda (x y) (f %))", "(let ((if x) (f 1)) %)", "(lambda (a n) %)", "(let-syntax ((f (syntax-rules () ((_ z) (quote z)) ((_ x z) (x z))))) %)"}
	defined := []string{"(let-syntax ((m #)) %)", "(begin (define-syntax m #) %)", "(let-syntax ((k (syntax-rules () ((_ m) (let-syntax ((m #)) %))))) (k m))", "(let-syntax ((k (syntax-rules () ((_ m x) (let-syntax ((m #)) %))))) (k m x))"}
	literals := []string{"()", "(x)", "(y if)"}
	templates := []string{"a", "x", "(f a x)", "(lambda (x) a)", "(lambda (x) (f a x))", "(lambda (a) (f a x))", "(let ((x a)) (if x x a))", "(set! x a)", "(quote (a x))", "(let-syntax ((n (syntax-rules () ((_) (f a x))))) (lambda (x) (n)))",
		"(let-syntax ((n (syntax-rules (x) ((_ x) 1) ((_ a) 2)))) (f (n a) (n x)))", "(let-syntax ((a (syntax-rules () ((_ y) (x y))))) (a (a x)))", "(let* ((if a) (x if)) (if x))"}
	uses := []string{"(m x)", "(m y)", "(m (m x))", "(lambda (x) (m x))", "(lambda (y) (m y))", "(lambda (m) (m x))", "(let ((x 1)) (m x))", "(let* ((x x) (y x)) (m y))", "(letrec ((x (m x))) x)", "(m if)", "(lambda (if) (m if))", "(m (lambda (x) (x y)))", "(lambda (f) (m (let ((y x)) (x y f))))", "(m 1 2)"}
	right, made := 0, 0
	for _, outer := range around {
		for _, def := range defined {
			for _, lits := range literals {
				for _, tmpl := range templates {
					for _, use := range uses {
						rules := "(syntax-rules " + lits + " ((_ x) 5) ((_ y) y) ((_ a b) (m a)))"
						if lits == "()" || strings.Contains(use, "lambda (f)") {
							rules = "(syntax-rules " + lits + " ((_ a) " + tmpl + "))"
						} else if tmpl != "(set! x a)" {
							rules = strings.Replace(rules, "((_ y) y)", "((_ a) "+tmpl+")", 1)
							rules = strings.Replace(rules, "((_ x) 5)", map[string]string{"(x)": "((_ x) 5)"}[lits], 1)
						}
						inside := strings.Replace(strings.Replace(def, "#", rules, 1), "%", use, 1)
						made++
						if _, e := newTwin(t).form(d(strings.Replace(outer, "%", inside, 1))); e == api.OK {
							right++
						}
					}
				}
			}
		}
	}
	if right < made/4 {
		t.Error("only so many are right:", right, made)
	}
}
