package job

import (
	"strconv"
	"strings"

	"reveille/api"
	"reveille/label"
)

// keys is the settings' keys, in the order in which they are printed.
var keys = [...]string{"select", "jitter", "wave", "fail", "parallel", "deadline", "misfire"}

// The values of the last one.
const (
	skip = "skip"
	once = "once"
	all  = "all"
)

// mostDigits is how many digits a number has at most.
const mostDigits = 9

// setting is how a setting's value is read into a job, and how a job's is written.
type setting struct {
	read func(j *api.Job, value string) bool
	text func(j api.Job) string
}

// settingOf is the setting of a key, and whether there is one.
func settingOf(key string) (setting, bool) {
	switch key {
	case "select":
		return setting{read: readSelect, text: selectText}, true
	case "jitter":
		return counted(func(j *api.Job) *int { return &j.Jitter }), true
	case "wave":
		return counted(func(j *api.Job) *int { return &j.Wave }), true
	case "fail":
		return counted(func(j *api.Job) *int { return &j.Fail }), true
	case "parallel":
		return counted(func(j *api.Job) *int { return &j.Parallel }), true
	case "deadline":
		return counted(func(j *api.Job) *int { return &j.Deadline }), true
	case "misfire":
		return setting{read: readMisfire, text: misfireText}, true
	}
	return setting{}, false
}

// counted is the setting of a number.
func counted(field func(j *api.Job) *int) setting {
	return setting{
		read: func(j *api.Job, value string) bool {
			n, ok := decimal(value)
			*field(j) = n
			return ok
		},
		text: func(j api.Job) string { return strconv.Itoa(*field(&j)) },
	}
}

// decimal is the number that a text says, and whether it says one.
func decimal(text string) (int, bool) {
	if len(text) < 1 || len(text) > mostDigits || len(text) > 1 && text[0] == '0' {
		return 0, false
	}
	n := 0
	for _, c := range []byte(text) {
		if c < '0' || c > '9' {
			return 0, false
		}
		n = 10*n + int(c-'0')
	}
	return n, true
}

func selectText(j api.Job) string { return label.Print(j.Select) }

func readMisfire(j *api.Job, value string) bool {
	switch value {
	case skip:
		j.Misfire = api.MissSkip
		return true
	case once:
		j.Misfire = api.MissOnce
		return true
	}
	// What is left behind the blank is a number, perhaps behind further ones.
	kind, bound, ok := strings.Cut(value, blank)
	n, counts := decimal(trim(bound))
	j.Misfire, j.Bound = api.MissAll, n
	return ok && kind == all && counts
}

func misfireText(j api.Job) string {
	switch j.Misfire {
	case api.MissSkip:
		return skip
	case api.MissOnce:
		return once
	}
	return all + blank + strconv.Itoa(j.Bound)
}
